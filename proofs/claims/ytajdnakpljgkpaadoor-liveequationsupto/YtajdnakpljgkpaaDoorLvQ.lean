/-
  The reckoning of what is live, purely: places whose sets grow until none grows any more are the least; no condition.
-/
import Derived.Test.YtajdnakpljgkpaaDoorLvB
import Derived.Test.YtajdnakpljgkpaaDoorIrL
namespace Go.Proofs.YtajdnakpljgkpaaDoor
open Go.RowKit
set_option linter.unusedVariables false
set_option linter.unusedSimpArgs false

/-- A place: its set, what is written, where those lie from which the code comes, and who they are, whether it waits. -/
structure Pl where
  s : Nat → Nat
  wr : Int
  fa : Option Addr
  fc : Nat
  fr : List Int
  wt : Bool
def upd (P : Nat → Pl) (i : Nat) (p : Pl) : Nat → Pl := fun j => if j = i then p else P j
theorem upd_at (P : Nat → Pl) (i : Nat) (p : Pl) : upd P i p i = p := by simp [upd]
theorem upd_ne (P : Nat → Pl) {i j : Nat} (p : Pl) (h : j ≠ i) : upd P i p j = P j := by simp [upd, h]

theorem dd2_mem {q : Int} {l : List Int} (h : q ∈ dd2 l) : q ∈ l := by
  unfold dd2 at h
  split at h
  · split at h
    · simp at h; simp [h]
    · exact h
  · exact h
theorem srt2_mem {q : Int} {l : List Int} (h : q ∈ srt2 l) : q ∈ l := by
  unfold srt2 at h
  split at h
  · split at h
    · simp at h ⊢; omega
    · exact h
  · exact h
theorem next_in {L : List In} {p : Int} {q : Int} (h : q ∈ nextL L p) : ∃ k : Nat, q = (k : Int) ∧ k < L.length := by
  have key : ∀ l : List Int, q ∈ dd2 (srt2 (keepN L.length l)) → ∃ k : Nat, q = (k : Int) ∧ k < L.length := fun l hl => by
    have := srt2_mem (dd2_mem hl)
    unfold keepN at this
    have h2 := (List.mem_filter.1 this).2
    unfold inN at h2
    simp at h2
    exact ⟨q.toNat, by omega, by omega⟩
  unfold nextL nextC at h
  split at h
  · simp at h
  · split at h
    · exact key _ h
    · split at h
      · exact key _ h
      · split at h
        · simp at h
        · exact key _ h
theorem next_len (L : List In) (z : Int) : (nextL L z).length ≤ 2 := by
  have d2 : ∀ l : List Int, (dd2 l).length ≤ l.length := fun l => by
    unfold dd2
    split
    · split <;> simp
    · exact Nat.le_refl _
  unfold nextL nextC
  have h1 : ∀ (n : Nat) (l : List Int), l.length ≤ 2 → (dd2 (srt2 (keepN n l))).length ≤ 2 := fun n l hl => by
    have := d2 (srt2 (keepN n l))
    rw [srt2_len] at this
    have := keepN_len n l
    omega
  split
  · simp
  · split
    · exact h1 _ _ (by simp)
    · split
      · exact h1 _ _ (by simp)
      · split
        · simp
        · exact h1 _ _ (by simp)

theorem wrB_lt (rs : Int) (x : In) : wrB rs x < 1000 := by
  unfold wrB
  split
  · rename_i h
    exact (of_decide_eq_true h : cnt rs (wrI x)).2.2
  · decide
theorem wrB_ne {rs : Int} {x : In} {r : Nat} (hc : cnt rs r) (h : (r : Int) ≠ wrB rs x) : (r : Int) ≠ wrI x := by
  unfold wrB at h
  split at h
  · exact h
  · rename_i h2
    intro e
    exact h2 (decide_eq_true (e ▸ hc))
theorem wrB_of {rs : Int} {x : In} {r : Nat} (h : (r : Int) ≠ wrI x) : (r : Int) ≠ wrB rs x := by
  unfold wrB
  split
  · exact h
  · omega

/-- How much may still come into the sets. -/
def tot : Nat → (Nat → Pl) → Nat
  | 0, _ => 0
  | n + 1, P => tot n P + outS (P n).s
theorem tot_congr {P Q : Nat → Pl} : ∀ (n : Nat), (∀ i, i < n → outS (P i).s = outS (Q i).s) → tot n P = tot n Q
  | 0, _ => rfl
  | n + 1, h => by rw [tot, tot, tot_congr n (fun i hi => h i (by omega)), h n (by omega)]
theorem tot_lt {P : Nat → Pl} {i : Nat} {p : Pl} (h : outS p.s < outS (P i).s) : ∀ (n : Nat), i < n → tot n (upd P i p) < tot n P
  | n + 1, hi => by
    rw [tot, tot]
    by_cases e : i = n
    · subst e
      rw [upd_at, tot_congr i (P := upd P i p) (Q := P) (fun j hj => by rw [upd_ne _ _ (by omega)])]
      omega
    · have := tot_lt h n (by omega)
      rw [upd_ne _ _ (fun h => e h.symm)]
      omega
theorem outS_most (s : Nat → Nat) : outS s ≤ 1024 := by
  unfold outS
  have := List.length_filter_le (fun r => !hasS s r) (List.range 1024)
  simpa using this
theorem tot_most (P : Nat → Pl) : ∀ n, tot n P ≤ 1024 * n
  | 0 => by simp [tot]
  | n + 1 => by
    have := tot_most P n
    have := outS_most (P n).s
    rw [tot]
    omega

section
variable (L : List In) (rs : Int)
/-- While places are set up: the first d are, all of them wait. -/
structure SetUp (d : Nat) (P : Nat → Pl) : Prop where
  dN : d ≤ L.length
  lo : ∀ i, i < d → (P i).wt = true
  hi : ∀ i, d ≤ i → i < L.length → (P i).wt = false
  z : ∀ i, d ≤ i → i < L.length → okS (P i).s
  s : ∀ (i : Nat) (x : In), i < d → L[i]? = some x → (P i).s = rdS rs (rdL x)
  wr : ∀ (i : Nat) (x : In), i < d → L[i]? = some x → (P i).wr = wrB rs x
  frm : ∀ (i : Nat) (q : Int), i < L.length → q ∈ (P i).fr → ∃ n : Nat, q = (n : Int) ∧ n < d ∧ (i : Int) ∈ nextL L n
  frc : ∀ n k : Nat, n < d → (k : Int) ∈ nextL L n → (n : Int) ∈ (P k).fr
  fl : ∀ i, i < L.length → (P i).fr.length ≤ 2 * d
/-- While the next ones of place d are told of it. -/
structure Half (d j : Nat) (P : Nat → Pl) : Prop where
  dN : d < L.length
  lo : ∀ i, i < d → (P i).wt = true
  hi : ∀ i, d ≤ i → i < L.length → (P i).wt = false
  z : ∀ i, d < i → i < L.length → okS (P i).s
  s : ∀ (i : Nat) (x : In), i ≤ d → L[i]? = some x → (P i).s = rdS rs (rdL x)
  wr : ∀ (i : Nat) (x : In), i ≤ d → L[i]? = some x → (P i).wr = wrB rs x
  frm : ∀ (i : Nat) (q : Int), i < L.length → q ∈ (P i).fr → ∃ n : Nat, q = (n : Int) ∧ n ≤ d ∧ (i : Int) ∈ nextL L n
  frc : ∀ n k : Nat, n < d → (k : Int) ∈ nextL L n → (n : Int) ∈ (P k).fr
  frd : ∀ k : Nat, (k : Int) ∈ (nextL L d).take j → (d : Int) ∈ (P k).fr
  fl : ∀ i, i < L.length → (P i).fr.length ≤ 2 * d + j
/-- What holds while sets grow; those of a place at may still be told, but for the first j. -/
structure Inv (at_ j : Nat) (P : Nat → Pl) (Wt : List Int) : Prop where
  ok : ∀ i, i < L.length → okS (P i).s
  nd : Wt.Nodup
  wt : ∀ q, q ∈ Wt → ∃ i : Nat, q = (i : Int) ∧ i < L.length ∧ (P i).wt = true
  tw : ∀ i, i < L.length → (P i).wt = true → (i : Int) ∈ Wt
  snd : ∀ T : Nat → Nat → Prop, Closed L rs T → ∀ i r, i < L.length → hasS (P i).s r = true → T i r
  rd : ∀ (i : Nat) (x : In) (r : Nat), L[i]? = some x → (r : Int) ∈ rdL x → cnt rs r → hasS (P i).s r = true
  wr : ∀ (i : Nat) (x : In), L[i]? = some x → (P i).wr = wrB rs x
  frm : ∀ (i : Nat) (q : Int), i < L.length → q ∈ (P i).fr → ∃ n : Nat, q = (n : Int) ∧ n < L.length ∧ (i : Int) ∈ nextL L n
  frc : ∀ n k : Nat, n < L.length → (k : Int) ∈ nextL L n → (n : Int) ∈ (P k).fr
  clo : ∀ n k : Nat, n < L.length → (k : Int) ∈ nextL L n → (P k).wt = false → (k = at_ → (n : Int) ∈ (P at_).fr.take j) → ∀ r : Nat, hasS (P k).s r = true → (r : Int) ≠ (P n).wr → hasS (P n).s r = true
end
variable {L : List In} {rs : Int} {P : Nat → Pl} {Wt : List Int} {d j at_ : Nat}

theorem SetUp.start (h : ∀ i, i < L.length → (P i).wt = false ∧ okS (P i).s ∧ (P i).fr = []) : SetUp L rs 0 P where
  dN := Nat.zero_le _
  lo := fun i hi => by omega
  hi := fun i _ hi => (h i hi).1
  z := fun i _ hi => (h i hi).2.1
  s := fun i x hi => by omega
  wr := fun i x hi => by omega
  frm := fun i q hi hq => by rw [(h i hi).2.2] at hq; simp at hq
  frc := fun n k hn => by omega
  fl := fun i hi => by rw [(h i hi).2.2]; simp
theorem SetUp.half (h : SetUp L rs d P) (x : In) (hx : L[d]? = some x) : Half L rs d 0 (upd P d { P d with s := rdS rs (rdL x), wr := wrB rs x }) where
  dN := (List.getElem?_eq_some_iff.1 hx).1
  lo := fun i hi => by rw [upd_ne _ _ (by omega)]; exact h.lo i hi
  hi := fun i h1 h2 => by
    by_cases e : i = d
    · subst e; rw [upd_at]; exact h.hi i (Nat.le_refl _) h2
    · rw [upd_ne _ _ e]; exact h.hi i h1 h2
  z := fun i h1 h2 => by rw [upd_ne _ _ (by omega)]; exact h.z i (by omega) h2
  s := fun i y h1 h2 => by
    by_cases e : i = d
    · subst e; rw [upd_at]; rw [hx] at h2; injection h2 with h2; rw [h2]
    · rw [upd_ne _ _ e]; exact h.s i y (by omega) h2
  wr := fun i y h1 h2 => by
    by_cases e : i = d
    · subst e; rw [upd_at]; rw [hx] at h2; injection h2 with h2; rw [h2]
    · rw [upd_ne _ _ e]; exact h.wr i y (by omega) h2
  frm := fun i q h1 h2 => by
    have : (upd P d { P d with s := rdS rs (rdL x), wr := wrB rs x } i).fr = (P i).fr := by
      by_cases e : i = d
      · subst e; rw [upd_at]
      · rw [upd_ne _ _ e]
    rw [this] at h2
    obtain ⟨n, e, hn, hk⟩ := h.frm i q h1 h2
    exact ⟨n, e, by omega, hk⟩
  frc := fun n k h1 h2 => by
    have : (upd P d { P d with s := rdS rs (rdL x), wr := wrB rs x } k).fr = (P k).fr := by
      by_cases e : k = d
      · subst e; rw [upd_at]
      · rw [upd_ne _ _ e]
    rw [this]
    exact h.frc n k h1 h2
  frd := fun k hk => by simp at hk
  fl := fun i hi => by
    have : (upd P d { P d with s := rdS rs (rdL x), wr := wrB rs x } i).fr = (P i).fr := by
      by_cases e : i = d
      · subst e; rw [upd_at]
      · rw [upd_ne _ _ e]
    rw [this]
    exact h.fl i hi
theorem Half.step (h : Half L rs d j P) {k : Nat} (hk : (nextL L d)[j]? = some (k : Int)) (fa : Option Addr) (fc : Nat) : Half L rs d (j + 1) (upd P k { P k with fa := fa, fc := fc, fr := (P k).fr ++ [(d : Int)] }) := by
  have hmem : (k : Int) ∈ nextL L d := List.mem_of_getElem? hk
  have e0 : ∀ i, (upd P k { P k with fa := fa, fc := fc, fr := (P k).fr ++ [(d : Int)] } i).wt = (P i).wt := fun i => by
    by_cases e : i = k
    · subst e; rw [upd_at]
    · rw [upd_ne _ _ e]
  have e1 : ∀ i, (upd P k { P k with fa := fa, fc := fc, fr := (P k).fr ++ [(d : Int)] } i).s = (P i).s := fun i => by
    by_cases e : i = k
    · subst e; rw [upd_at]
    · rw [upd_ne _ _ e]
  have e2 : ∀ i, (upd P k { P k with fa := fa, fc := fc, fr := (P k).fr ++ [(d : Int)] } i).wr = (P i).wr := fun i => by
    by_cases e : i = k
    · subst e; rw [upd_at]
    · rw [upd_ne _ _ e]
  have e3 : ∀ (i : Nat) (q : Int), q ∈ (P i).fr → q ∈ (upd P k { P k with fa := fa, fc := fc, fr := (P k).fr ++ [(d : Int)] } i).fr := fun i q hq => by
    by_cases e : i = k
    · subst e; rw [upd_at]; simp [hq]
    · rw [upd_ne _ _ e]; exact hq
  refine ⟨h.dN, fun i hi => by rw [e0]; exact h.lo i hi, fun i h1 h2 => by rw [e0]; exact h.hi i h1 h2, fun i h1 h2 => by rw [e1]; exact h.z i h1 h2, fun i x h1 h2 => by rw [e1]; exact h.s i x h1 h2, fun i x h1 h2 => by rw [e2]; exact h.wr i x h1 h2, ?_, fun n m h1 h2 => e3 _ _ (h.frc n m h1 h2), ?_, ?_⟩
  · intro i q hi hq
    by_cases e : i = k
    · subst e
      rw [upd_at] at hq
      simp at hq
      rcases hq with hq | hq
      · exact h.frm i q hi hq
      · exact ⟨d, hq, Nat.le_refl _, hmem⟩
    · rw [upd_ne _ _ e] at hq
      exact h.frm i q hi hq
  · intro m hm
    rw [List.take_add_one, hk] at hm
    simp at hm
    rcases hm with hm | hm
    · exact e3 _ _ (h.frd m hm)
    · obtain rfl : m = k := by omega
      rw [upd_at]; simp
  · intro i hi
    have := h.fl i hi
    by_cases e : i = k
    · subst e; rw [upd_at]; simp; omega
    · rw [upd_ne _ _ e]; omega
theorem Half.done (h : Half L rs d j P) (hj : (nextL L d).length ≤ j) (hj2 : j ≤ 2) : SetUp L rs (d + 1) (upd P d { P d with wt := true }) := by
  have e1 : ∀ i, (upd P d { P d with wt := true } i).s = (P i).s := fun i => by
    by_cases e : i = d
    · subst e; rw [upd_at]
    · rw [upd_ne _ _ e]
  have e2 : ∀ i, (upd P d { P d with wt := true } i).wr = (P i).wr := fun i => by
    by_cases e : i = d
    · subst e; rw [upd_at]
    · rw [upd_ne _ _ e]
  have e3 : ∀ i, (upd P d { P d with wt := true } i).fr = (P i).fr := fun i => by
    by_cases e : i = d
    · subst e; rw [upd_at]
    · rw [upd_ne _ _ e]
  refine ⟨h.dN, ?_, fun i h1 h2 => by rw [upd_ne _ _ (by omega)]; exact h.hi i (by omega) h2, fun i h1 h2 => by rw [e1]; exact h.z i (by omega) h2, fun i x h1 h2 => by rw [e1]; exact h.s i x (by omega) h2, fun i x h1 h2 => by rw [e2]; exact h.wr i x (by omega) h2, ?_, ?_, fun i hi => by rw [e3]; have := h.fl i hi; omega⟩
  · intro i hi
    by_cases e : i = d
    · subst e; rw [upd_at]
    · rw [upd_ne _ _ e]; exact h.lo i (by omega)
  · intro i q hi hq
    rw [e3] at hq
    obtain ⟨n, e, hn, hk⟩ := h.frm i q hi hq
    exact ⟨n, e, by omega, hk⟩
  · intro n k hn hk
    rw [e3]
    by_cases e : n = d
    · subst e
      exact h.frd k (by rw [List.take_of_length_le hj]; exact hk)
    · exact h.frc n k (by omega) hk
theorem range_nodup (n : Nat) : ((List.range n).map (fun i : Nat => (i : Int))).Nodup := by
  unfold List.Nodup
  rw [List.pairwise_map]
  refine List.Pairwise.imp ?_ List.pairwise_lt_range
  intro a b h
  omega
theorem SetUp.inv (h : SetUp L rs L.length P) (a : Nat) : Inv L rs a 0 P ((List.range L.length).map (fun i : Nat => (i : Int))) where
  ok := fun i hi => by rw [h.s i _ hi (List.getElem?_eq_getElem hi)]; exact rdS_ok _ _
  nd := range_nodup _
  wt := fun q hq => by
    simp only [List.mem_map, List.mem_range] at hq
    obtain ⟨i, hi, rfl⟩ := hq
    exact ⟨i, rfl, hi, h.lo i hi⟩
  tw := fun i hi _ => by simp only [List.mem_map, List.mem_range]; exact ⟨i, hi, rfl⟩
  snd := fun T hT i r hi hr => by
    have hx : L[i]? = some L[i] := List.getElem?_eq_getElem hi
    rw [h.s i _ hi hx] at hr
    have h2 := (rdS_has _ _ _).1 hr
    exact hT.rd i _ r hx h2.1 h2.2
  rd := fun i x r hx hm hc => by
    rw [h.s i x (List.getElem?_eq_some_iff.1 hx).1 hx]
    exact (rdS_has _ _ _).2 ⟨hm, hc⟩
  wr := fun i x hx => h.wr i x (List.getElem?_eq_some_iff.1 hx).1 hx
  frm := h.frm
  frc := h.frc
  clo := fun n k hn hk hw => by
    obtain ⟨m, e, hm⟩ := next_in hk
    have : k = m := by omega
    subst this
    rw [h.lo k hm] at hw
    cases hw

theorem cnt_closed (L : List In) (rs : Int) : Closed L rs (fun _ r => cnt rs r) := ⟨fun p x r _ _ hc => hc, fun p x k r _ _ _ hc _ => hc⟩
theorem Inv.cnt (h : Inv L rs at_ j P Wt) {i r : Nat} (hi : i < L.length) (hr : hasS (P i).s r = true) : cnt rs r := h.snd _ (cnt_closed L rs) i r hi hr
/-- The one that began to wait last is taken. -/
theorem Inv.take {l : List Int} {q : Int} {a : Nat} (h : Inv L rs a (P a).fr.length P (l ++ [q])) : ∃ n : Nat, q = (n : Int) ∧ n < L.length ∧ Inv L rs n 0 (upd P n { P n with wt := false }) l := by
  obtain ⟨n, e, hn, hw⟩ := h.wt q (by simp)
  subst e
  have e1 : ∀ i, (upd P n { P n with wt := false } i).s = (P i).s := fun i => by
    by_cases e : i = n
    · subst e; rw [upd_at]
    · rw [upd_ne _ _ e]
  have e2 : ∀ i, (upd P n { P n with wt := false } i).wr = (P i).wr := fun i => by
    by_cases e : i = n
    · subst e; rw [upd_at]
    · rw [upd_ne _ _ e]
  have e3 : ∀ i, (upd P n { P n with wt := false } i).fr = (P i).fr := fun i => by
    by_cases e : i = n
    · subst e; rw [upd_at]
    · rw [upd_ne _ _ e]
  have hnd := List.nodup_append.1 h.nd
  refine ⟨n, rfl, hn, fun i hi => by rw [e1]; exact h.ok i hi, hnd.1, ?_, ?_, fun T hT i r hi hr => by rw [e1] at hr; exact h.snd T hT i r hi hr, fun i x r h1 h2 h3 => by rw [e1]; exact h.rd i x r h1 h2 h3, fun i x hx => by rw [e2]; exact h.wr i x hx, fun i q hi hq => by rw [e3] at hq; exact h.frm i q hi hq, fun m k h1 h2 => by rw [e3]; exact h.frc m k h1 h2, ?_⟩
  · intro q hq
    obtain ⟨i, e, hi, hwi⟩ := h.wt q (by simp [hq])
    refine ⟨i, e, hi, ?_⟩
    rw [upd_ne _ _ (fun e2 => by subst e2; exact hnd.2.2 q hq (i : Int) (by simp) e)]
    exact hwi
  · intro i hi hwi
    by_cases e : i = n
    · subst e; rw [upd_at] at hwi; cases hwi
    · rw [upd_ne _ _ e] at hwi
      have := h.tw i hi hwi
      simp at this
      rcases this with h1 | h1
      · exact h1
      · exact absurd (by omega) e
  · intro m k hm hk hwk hnot r hr hne
    have hkn : k ≠ n := fun e => by have := hnot e; simp at this
    rw [upd_ne _ _ hkn] at hwk
    rw [e1] at hr ⊢
    rw [e2] at hne
    refine h.clo m k hm hk hwk (fun e => ?_) r hr hne
    subst e
    rw [List.take_length]
    exact h.frc m k hm hk
theorem Inv.full (h : Inv L rs at_ j P Wt) (hj : (P at_).fr.length ≤ j) : ∀ a, Inv L rs a (P a).fr.length P Wt := fun a => { h with
  clo := fun n k hn hk hw _ r hr hne => h.clo n k hn hk hw (fun e => by subst e; rw [List.take_of_length_le hj]; exact h.frc n k hn hk) r hr hne }
/-- At the end they are the least. -/
theorem Inv.least {a : Nat} (h : Inv L rs a (P a).fr.length P []) : Least L rs (fun i r => hasS (P i).s r = true) where
  cl := ⟨fun p x r hx hm hc => h.rd p x r hx hm hc, fun p x k r hx hk hr hc hne => by
    have hp := (List.getElem?_eq_some_iff.1 hx).1
    obtain ⟨m, e, hm⟩ := next_in hk
    have : k = m := by omega
    subst this
    refine h.clo p k hp hk ?_ (fun e => by subst e; rw [List.take_length]; exact h.frc p k hp hk) r hr (by rw [h.wr p x hx]; exact wrB_of hne)
    cases hw : (P k).wt with
    | false => rfl
    | true => have := h.tw k hm hw; simp at this⟩
  le := fun T hT i r hi hr => h.snd T hT i r hi hr

/-- What a place takes over. -/
def grw (P : Nat → Pl) (at_ n : Nat) : Nat → Nat := joinS (P n).s (witS (P at_).s (P n).wr)
theorem grw_has (h : Inv L rs at_ j P Wt) {n : Nat} (hn : n < L.length) (r : Nat) : hasS (grw P at_ n) r = (hasS (P n).s r || (hasS (P at_).s r && decide ((r : Int) ≠ (P n).wr))) := by
  have hx : L[n]? = some L[n] := List.getElem?_eq_getElem hn
  have := wrB_lt rs L[n]
  unfold grw
  rw [hasS_join, hasS_wit _ _ _ (by rw [h.wr n _ hx]; exact this)]
theorem Inv.same (h : Inv L rs at_ j P Wt) (ha : at_ < L.length) {n : Nat} (hn : (P at_).fr[j]? = some (n : Int)) (hs : ∀ i, i < 16 → grw P at_ n i = (P n).s i) : Inv L rs at_ (j + 1) P Wt := by
  obtain ⟨m, e, hm, hk⟩ := h.frm at_ _ ha (List.mem_of_getElem? hn)
  have : n = m := by omega
  subst this
  refine { h with clo := fun p k hp hkk hw hnot r hr hne => ?_ }
  by_cases e : k = at_ ∧ p = n
  · obtain ⟨rfl, rfl⟩ := e
    have hc := h.cnt ha hr
    have := hasS_congr hs (r := r) (by have := hc.2.2; omega)
    rw [← this, grw_has h hm, hr]
    simp [hne]
  · refine h.clo p k hp hkk hw (fun e2 => ?_) r hr hne
    have := hnot e2
    rw [List.take_add_one, hn] at this
    simp at this
    rcases this with h1 | h1
    · exact h1
    · exact absurd ⟨e2, by omega⟩ e
theorem Inv.grow (h : Inv L rs at_ j P Wt) (ha : at_ < L.length) {n : Nat} (hn : (P at_).fr[j]? = some (n : Int)) :
    Inv L rs at_ (j + 1) (upd P n { P n with s := grw P at_ n, wt := true }) (if (P n).wt = true then Wt else Wt ++ [(n : Int)]) := by
  obtain ⟨m, e, hm, hk⟩ := h.frm at_ _ ha (List.mem_of_getElem? hn)
  have : n = m := by omega
  subst this
  have hx : L[n]? = some L[n] := List.getElem?_eq_getElem hm
  have e1 : ∀ i, i ≠ n → (upd P n { P n with s := grw P at_ n, wt := true } i) = P i := fun i hi => upd_ne _ _ hi
  have e2 : ∀ i, (upd P n { P n with s := grw P at_ n, wt := true } i).wr = (P i).wr := fun i => by
    by_cases e : i = n
    · subst e; rw [upd_at]
    · rw [upd_ne _ _ e]
  have e3 : ∀ i, (upd P n { P n with s := grw P at_ n, wt := true } i).fr = (P i).fr := fun i => by
    by_cases e : i = n
    · subst e; rw [upd_at]
    · rw [upd_ne _ _ e]
  have eh : ∀ i r, hasS (P i).s r = true → hasS (upd P n { P n with s := grw P at_ n, wt := true } i).s r = true := fun i r hr => by
    by_cases e : i = n
    · subst e; rw [upd_at]; show hasS (grw P at_ i) r = true; rw [grw_has h hm, hr]; rfl
    · rw [upd_ne _ _ e]; exact hr
  constructor
  · intro i hi
    by_cases e : i = n
    · subst e; rw [upd_at]; exact (h.ok i hi).join ((h.ok at_ ha).wit _)
    · rw [upd_ne _ _ e]; exact h.ok i hi
  · split
    · exact h.nd
    · rename_i hw
      rw [List.nodup_append]
      refine ⟨h.nd, by simp, ?_⟩
      intro a h1 b h2
      simp at h2
      subst h2
      rintro rfl
      obtain ⟨i, e, _, hwi⟩ := h.wt _ h1
      have : n = i := by omega
      subst this
      exact hw hwi
  · intro q hq
    have key : q ∈ Wt ∨ q = (n : Int) := by
      split at hq
      · exact .inl hq
      · simpa using hq
    rcases key with h1 | h1
    · obtain ⟨i, e, hi, hwi⟩ := h.wt q h1
      refine ⟨i, e, hi, ?_⟩
      by_cases e : i = n
      · subst e; rw [upd_at]
      · rw [upd_ne _ _ e]; exact hwi
    · exact ⟨n, h1, hm, by rw [upd_at]⟩
  · intro i hi hwi
    by_cases e : i = n
    · subst e
      split
      · rename_i hw; exact h.tw i hi hw
      · simp
    · rw [upd_ne _ _ e] at hwi
      have := h.tw i hi hwi
      split
      · exact this
      · simp [this]
  · intro T hT i r hi hr
    by_cases e : i = n
    · subst e
      rw [upd_at] at hr
      change hasS (grw P at_ i) r = true at hr
      rw [grw_has h hm] at hr
      simp only [Bool.or_eq_true, Bool.and_eq_true, decide_eq_true_eq] at hr
      rcases hr with hr | ⟨hr, hne⟩
      · exact h.snd T hT i r hi hr
      · have hc := h.cnt ha hr
        rw [h.wr i _ hx] at hne
        exact hT.nx i _ at_ r hx hk (h.snd T hT at_ r ha hr) hc (wrB_ne hc hne)
    · rw [upd_ne _ _ e] at hr
      exact h.snd T hT i r hi hr
  · intro i x r h1 h2 h3
    exact eh _ _ (h.rd i x r h1 h2 h3)
  · intro i x hx
    rw [e2]
    exact h.wr i x hx
  · intro i q hi hq
    rw [e3] at hq
    exact h.frm i q hi hq
  · intro m k h1 h2
    rw [e3]
    exact h.frc m k h1 h2
  · intro p k hp hkk hw hnot r hr hne
    have hkn : k ≠ n := fun e => by subst e; rw [upd_at] at hw; cases hw
    rw [upd_ne _ _ hkn] at hw hr
    rw [e2] at hne
    rw [e3] at hnot
    by_cases e : k = at_ ∧ p = n
    · obtain ⟨rfl, rfl⟩ := e
      rw [upd_at]
      show hasS (grw P k p) r = true
      rw [grw_has h hm, hr]
      simp [hne]
    · refine eh _ _ (h.clo p k hp hkk hw (fun e2 => ?_) r hr hne)
      have := hnot e2
      rw [List.take_add_one, hn] at this
      simp at this
      rcases this with h1 | h1
      · exact h1
      · exact absurd ⟨e2, by omega⟩ e
/-- How much is left to do. -/
def left (n : Nat) (P : Nat → Pl) (Wt : List Int) : Nat := 2 * tot n P + Wt.length
theorem left_grow (h : Inv L rs at_ j P Wt) (ha : at_ < L.length) {n : Nat} (hm : n < L.length) {i : Nat} (hi : i < 16) (hne : grw P at_ n i ≠ (P n).s i) :
    left L.length (upd P n { P n with s := grw P at_ n, wt := true }) (if (P n).wt = true then Wt else Wt ++ [(n : Int)]) < left L.length P Wt := by
  have h1 : outS (grw P at_ n) < outS (P n).s := join_grows (h.ok n hm) ((h.ok at_ ha).wit _) hi hne
  have h2 := tot_lt (P := P) (p := { P n with s := grw P at_ n, wt := true }) h1 L.length hm
  unfold left
  have h3 : (Wt ++ [(n : Int)]).length = Wt.length + 1 := by simp
  split <;> omega
end Go.Proofs.YtajdnakpljgkpaaDoor
