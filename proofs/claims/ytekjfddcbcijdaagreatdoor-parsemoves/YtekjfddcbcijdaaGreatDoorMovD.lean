/-
  How far the places of what is read lie; no condition.
-/
import Derived.Test.YtekjfddcbcijdaaGreatDoorMovC
namespace Go.Proofs.YtekjfddcbcijdaaGreatDoor
open Go.RowKit
set_option linter.unusedVariables false
set_option linter.unusedSimpArgs false

/-- What comes out keeps what every node has. -/
def Keep (Φ : PN → Prop) (ns : List PN) (r : R) : Prop := ∀ v j ms, r = some (.ok (v, j, ms)) → (∀ x ∈ ns, Φ x) → ∀ x ∈ ms, Φ x
section
variable {Φ : PN → Prop} {ts : List Tok}
theorem Keep.none {ns : List PN} : Keep Φ ns none := fun _ _ _ h => by cases h
theorem Keep.err {ns : List PN} {e : Nat} : Keep Φ ns (some (.error e)) := fun _ _ _ h => by cases h
theorem Keep.ok {ns : List PN} {v : List Nat} {i : Nat} : Keep Φ ns (some (.ok (v, i, ns))) := fun _ _ _ h hn => by cases h; exact hn
theorem Keep.bind {ns : List PN} {r : R} {k : List Nat → Nat → List PN → R} (h : Keep Φ ns r) (hk : ∀ v j ms, Keep Φ ms (k v j ms)) : Keep Φ ns (bindR r k) := by
  intro v j ms e hn
  rcases bindR_some e with ⟨er, hr, he⟩ | ⟨v1, j1, n1, hr, hP⟩
  · cases he
  · exact hk v1 j1 n1 v j ms hP (h v1 j1 n1 hr hn)
theorem Keep.want {ns : List PN} {s : List UInt8} {i : Nat} {x : R} (h : Keep Φ ns x) : Keep Φ ns (wantR ts s i x) := by
  unfold wantR
  split
  · exact h
  · exact Keep.err
theorem Keep.lay {kind : Nat} {text : List UInt8} {pl : Nat} {ks : List Nat} {i : Nat} {ns : List PN} (h : Φ ⟨kind, text, ks, pl⟩) : Keep Φ ns (layR kind text pl ks i ns) := by
  intro v j ms e hn
  cases e
  intro x hx
  rcases List.mem_append.1 hx with hx | hx
  · exact hn x hx
  · simp at hx; subst hx; exact h
theorem Keep.lay' {kind : Nat} {text : List UInt8} {pl : Nat} {ks : List Nat} {i : Nat} {ns : List PN} (h : (∀ x ∈ ns, Φ x) → Φ ⟨kind, text, ks, pl⟩) : Keep Φ ns (layR kind text pl ks i ns) := by
  intro v j ms e hn
  cases e
  intro x hx
  rcases List.mem_append.1 hx with hx | hx
  · exact hn x hx
  · simp at hx; subst hx; exact h hn
theorem laySg_keep (hΦ : ∀ (t : Tok) (n : Nat), Φ ⟨18, t.text, [n], t.frm⟩) : ∀ (acc : List Tok) (n : Nat) (ns : List PN), (∀ x ∈ ns, Φ x) → ∀ x ∈ (laySg acc n ns).2, Φ x
  | [], n, ns, h => h
  | t :: r, n, ns, h => by
    simp only [laySg]
    refine laySg_keep hΦ r _ _ (fun x hx => ?_)
    rcases List.mem_append.1 hx with hx | hx
    · exact h x hx
    · simp at hx; subst hx; exact hΦ t n
end
def LenOK (M : Nat) (x : PN) : Prop := x.text.length ≤ M ∧ x.pl ≤ M
def TLen (M : Nat) (t : Tok) : Prop := t.text.length ≤ M ∧ t.frm ≤ M
/-- The tokens of signs that are still to be laid. -/
def accT : NT → List Tok
  | .signedL acc => acc
  | .blockL pl _ => [⟨0, [], pl, 0, 0⟩]
  | .laySigns acc _ => acc
  | _ => []
theorem tk_len {ts : List Tok} {M : Nat} (h : ∀ i, i < ts.length → TLen M (tk ts i)) (i : Nat) : TLen M (tk ts i) := by
  by_cases hi : i < ts.length
  · exact h i hi
  · unfold tk
    rw [List.getD_eq_getElem?_getD, List.getElem?_eq_none (by omega)]
    simp [TLen]
theorem laySg_len2 {M : Nat} : ∀ (acc : List Tok) (n : Nat) (ns : List PN), (∀ t ∈ acc, TLen M t) → (∀ x ∈ ns, LenOK M x) → ∀ x ∈ (laySg acc n ns).2, LenOK M x
  | [], n, ns, _, h => h
  | t :: r, n, ns, ha, h => by
    simp only [laySg]
    refine laySg_len2 r _ _ (fun u hu => ha u (by simp [hu])) (fun x hx => ?_)
    rcases List.mem_append.1 hx with hx | hx
    · exact h x hx
    · simp at hx; subst hx; exact ha t (by simp)
theorem dec_len2 : ∀ (k n : Nat), n < 10 ^ (k + 1) → (Lib.decDigits n).length ≤ k + 1
  | 0, n, h => by rw [Lib.decDigits_one (by simpa using h)]; simp
  | k + 1, n, h => by
    by_cases h10 : n < 10
    · rw [Lib.decDigits_one h10]; simp
    · rw [Lib.decDigits, dif_neg h10, List.length_append]
      have := dec_len2 k (n / 10) (by
        rw [Nat.pow_succ] at h
        exact Nat.div_lt_of_lt_mul (by rw [Nat.mul_comm]; exact h))
      simp
      omega
theorem acc_decl {s : List UInt8} {nt : NT} (h : declNT s = some nt) : accT nt = [] := by
  unfold declNT at h
  repeat' (first | (cases h; done) | (cases h; rfl) | split at h)
theorem acc_stmt {s : List UInt8} {nt : NT} (h : stmtNT s = some nt) : accT nt = [] := by
  unfold stmtNT at h
  repeat' (first | (cases h; done) | (cases h; rfl) | split at h)
set_option maxHeartbeats 1000000 in
theorem acc_first {s : List UInt8} {nt : NT} (h : firstNT s = some nt) : accT nt = [] := by
  unfold firstNT at h
  by_cases e0 : s = [110, 117, 109, 98, 101, 114]
  · rw [if_pos e0] at h; cases h; rfl
  rw [if_neg e0] at h
  by_cases e1 : s = [110, 97, 109, 101]
  · rw [if_pos e1] at h; cases h; rfl
  rw [if_neg e1] at h
  by_cases e2 : s = [110, 117, 108, 108]
  · rw [if_pos e2] at h; cases h; rfl
  rw [if_neg e2] at h
  by_cases e3 : s = [114, 111, 111, 116]
  · rw [if_pos e3] at h; cases h; rfl
  rw [if_neg e3] at h
  by_cases e4 : s = [110, 101, 119]
  · rw [if_pos e4] at h; cases h; rfl
  rw [if_neg e4] at h
  by_cases e5 : s = [97, 114, 114]
  · rw [if_pos e5] at h; cases h; rfl
  rw [if_neg e5] at h
  by_cases e6 : s = [108, 101, 110]
  · rw [if_pos e6] at h; cases h; rfl
  rw [if_neg e6] at h
  by_cases e7 : s = [105, 110]
  · rw [if_pos e7] at h; cases h; rfl
  rw [if_neg e7] at h
  by_cases e8 : s = [105, 109, 103]
  · rw [if_pos e8] at h; cases h; rfl
  rw [if_neg e8] at h
  by_cases e9 : s = [115, 105, 122, 101]
  · rw [if_pos e9] at h; cases h; rfl
  rw [if_neg e9] at h
  by_cases e10 : s = [112, 114, 111, 109, 111, 116, 101]
  · rw [if_pos e10] at h; cases h; rfl
  rw [if_neg e10] at h
  by_cases e11 : s = [40]
  · rw [if_pos e11] at h; cases h; rfl
  rw [if_neg e11] at h
  cases h
theorem keep_len {ts : List Tok} {M : Nat} (hT : Toks ts) (hM : 20 ≤ M) (ht : ∀ i, i < ts.length → TLen M (tk ts i)) : ∀ (f : Nat) (nt : NT) (i : Nat) (ns : List PN), (∀ t ∈ accT nt, TLen M t) → Keep (LenOK M) ns (P ts f nt i ns) := by
  intro f
  have l0 : ∀ k ks j, LenOK M ⟨k, [], ks, (tk ts j).frm⟩ := fun _ _ j => ⟨by simp, (tk_len ht j).2⟩
  have l00 : ∀ k ks, LenOK M ⟨k, [], ks, 0⟩ := fun _ _ => ⟨by simp, by simp⟩
  have l1 : ∀ k j ks q, LenOK M ⟨k, (tk ts j).text, ks, (tk ts q).frm⟩ := fun _ j _ q => ⟨(tk_len ht j).1, (tk_len ht q).2⟩
  have l2 : ∀ k j ks q, LenOK M ⟨k, Lib.decDigits (tk ts j).n, ks, (tk ts q).frm⟩ := fun _ j _ q => by
    have := dec_len2 19 (tk ts j).n (by have := hT.num j; omega)
    have h2 := (tk_len ht q).2
    unfold LenOK
    simp only
    omega
  have l3 : ∀ (ns : List PN) k ks n, (∀ x ∈ ns, LenOK M x) → LenOK M ⟨k, [], ks, plN ns n⟩ := fun ns _ _ n h => by
    refine ⟨by simp, ?_⟩
    unfold plN
    cases hx : ns[n]? with
    | none => simp
    | some x => exact (h x (List.mem_of_getElem? hx)).2
  have nl : ∀ (nt : NT), accT nt = [] → ∀ t ∈ accT nt, TLen M t := fun nt h t hh => by rw [h] at hh; cases hh
  induction f with
  | zero => intro nt i ns _; exact Keep.none
  | succ f ih =>
    intro nt i ns ha
    cases nt
    all_goals simp only [P]
    case signedL acc =>
      split
      · refine ih (.signedL _) _ _ (fun t hh => ?_)
        rcases List.mem_append.1 hh with hh | hh
        · exact ha t hh
        · simp at hh; subst hh; exact tk_len ht i
      · refine Keep.bind (ih .back _ _ (nl _ rfl)) fun v j ms => ih (.laySigns _ _) _ _ (fun t hh => ha t (by simpa [accT] using hh))
    case block pl =>
      refine Keep.want (ih (.blockL _ _) _ _ (fun t hh => ?_))
      simp only [accT, List.mem_cons, List.not_mem_nil, or_false] at hh
      subst hh
      exact ⟨by simp, (tk_len ht i).2⟩
    case blockL pl acc =>
      have hpl : pl ≤ M := (ha ⟨0, [], pl, 0, 0⟩ (by simp [accT])).2
      split
      · exact Keep.lay ⟨by simp, hpl⟩
      · exact Keep.bind (ih .stmt _ _ (nl _ rfl)) fun v j ms => ih (.blockL _ _) _ _ ha
    case laySigns acc n =>
      intro v j ms e hn
      cases e
      exact laySg_len2 acc n ns ha hn
    all_goals
      repeat (first
        | exact Keep.err
        | exact Keep.ok
        | exact Keep.lay (l00 _ _)
        | exact Keep.lay (l0 _ _ _)
        | exact Keep.lay' (l3 _ _ _ _)
        | exact Keep.lay (l1 _ _ _ _)
        | exact Keep.lay (l2 _ _ _ _)
        | exact ih _ _ _ (nl _ rfl)
        | exact ih _ _ _ (nl _ (acc_decl (by assumption)))
        | exact ih _ _ _ (nl _ (acc_stmt (by assumption)))
        | exact ih _ _ _ (nl _ (acc_first (by assumption)))
        | (refine ih _ _ _ (nl _ ?_); split <;> rfl)
        | refine Keep.want ?_
        | (refine Keep.bind ?_ fun v j ms => ?_)
        | split)

theorem readL_tl {p : Nat} {l : List UInt8} {t : Tok} (h : readL p l = .ok t) : t.frm = p ∧ t.text.length ≤ l.length := by
  unfold readL at h
  split at h
  · cases h; exact ⟨rfl, by simp; omega⟩
  split at h
  · split at h
    · cases h
    · cases h; exact ⟨rfl, by simp; omega⟩
  split at h
  · split at h
    · cases h
    · cases h; exact ⟨rfl, by simp; omega⟩
  split at h
  · cases h
  · cases h; exact ⟨rfl, by simp; omega⟩
theorem scanL_tl : ∀ (f p : Nat) (l : List UInt8), (∀ t ∈ (scanL f p l).1, TLen (p + l.length) t) ∧ ∀ x, (scanL f p l).2 = some x → x.1 ≤ p + l.length
  | 0, p, l => by simp [scanL]
  | f + 1, p, l => by
    simp only [scanL]
    split
    · simp
    · rename_i hs
      have hs2 := skipL_le false l
      have hne : l.drop (skipL false l) ≠ [] := fun e => by
        have := congrArg List.length e
        simp at this
        omega
      split
      · simp
        omega
      · rename_i t ht
        have h1 := readL_tl ht
        have h2 := readL_to hne ht
        have h3 := scanL_tl f t.to (l.drop (t.to - p))
        simp only [List.length_drop] at h1 h2 h3
        have e3 : t.to + (l.length - (t.to - p)) = p + l.length := by omega
        rw [e3] at h3
        refine ⟨fun u hu => ?_, h3.2⟩
        rcases List.mem_cons.1 hu with rfl | hu
        · exact ⟨by omega, by omega⟩
        · exact h3.1 u hu
theorem toks_tl {s : ByteArray} {ts : List Tok} (h : (sc s 0).1 = ts) : ∀ t ∈ withEnd s ts, TLen s.size t := by
  have g := (scanL_tl (s.size + 1) 0 (s.data.toList.drop 0)).1
  have e : (scanL (s.size + 1) 0 (s.data.toList.drop 0)).1 = ts := h
  have hl : (s.data.toList.drop 0).length = s.size := by rw [List.length_drop, ← Lib.size_eq, Nat.sub_zero]
  rw [e, hl, Nat.zero_add] at g
  intro t ht
  rcases List.mem_append.1 ht with ht | ht
  · exact g t ht
  · simp at ht
    subst ht
    exact ⟨by simp, by simp⟩
theorem tk_mem {ts : List Tok} {i : Nat} (h : i < ts.length) : tk ts i ∈ ts := by
  unfold tk
  rw [List.getD_eq_getElem?_getD, List.getElem?_eq_getElem h]
  exact List.getElem_mem h
theorem too_mem : ∀ (ts : List Tok) (o p : Nat), tooO ts o = some p → ∃ t ∈ ts, t.frm = p
  | [], _, _, h => by cases h
  | t :: r, o, p, h => by
    simp only [tooO] at h
    split at h
    · cases h; exact ⟨t, by simp, rfl⟩
    · obtain ⟨u, h1, h2⟩ := too_mem r _ p h
      exact ⟨u, by simp [h1], h2⟩
theorem prg_err_pl {s : ByteArray} {p c : Nat} (h : prgL s = .error (p, c)) : p ≤ s.size := by
  rcases hsc : sc s 0 with ⟨ts, _ | ⟨p', c'⟩⟩
  · rw [prgL_after hsc rfl] at h
    have hT : Toks (withEnd s ts) := (toks_of (by rw [hsc])).1
    have hS := toks_tl (s := s) (ts := ts) (by rw [hsc])
    generalize withEnd s ts = us at *
    unfold afterL at h
    split at h
    · rename_i q hq
      cases h
      obtain ⟨t, h1, rfl⟩ := too_mem _ _ _ hq
      exact (hS t h1).2
    · split at h
      · rename_i k hk
        cases h
        exact (hS _ (tk_mem (fullP_lt hT hk))).2
      · split at h
        · cases h; omega
        · split at h
          · cases h; omega
          · cases h
  · unfold prgL at h
    rw [hsc] at h
    cases h
    have h1 := (scanL_tl (s.size + 1) 0 (s.data.toList.drop 0)).2 (p, c) (show (sc s 0).2 = _ by rw [hsc])
    have hl : (s.data.toList.drop 0).length = s.size := by rw [List.length_drop, ← Lib.size_eq, Nat.sub_zero]
    simp only [hl, Nat.zero_add] at h1
    exact h1
theorem prg_pl {s : ByteArray} {ms : List PN} (h : prgL s = .ok ms) : ∀ x ∈ ms, x.pl ≤ s.size + 20 := by
  rcases hsc : sc s 0 with ⟨ts, _ | ⟨p, c⟩⟩
  · rw [prgL_after hsc rfl] at h
    have hT : Toks (withEnd s ts) := (toks_of (by rw [hsc])).1
    have hS := toks_tl (s := s) (ts := ts) (by rw [hsc])
    generalize withEnd s ts = us at *
    unfold afterL at h
    split at h
    · cases h
    · split at h
      · cases h
      · rename_i v j ns hr
        split at h
        · cases h
        · split at h
          · cases h
          · cases h
            have hh := (fullP_eq hT).trans (congrArg some hr)
            have := keep_len (M := s.size + 20) hT (by omega) (fun i hi => by have := hS _ (tk_mem hi); exact ⟨by have := this.1; omega, by have := this.2; omega⟩) _ .prog _ _ (fun t h => by cases h) v j ms hh (by simp)
            exact fun x hx => (this x hx).2
  · unfold prgL at h
    rw [hsc] at h
    cases h
theorem okB_decl {s : List UInt8} {nt : NT} (h : declNT s = some nt) : okB nt = true := by
  unfold declNT at h
  repeat' (first | (cases h; done) | (cases h; rfl) | split at h)
theorem okB_stmt {s : List UInt8} {nt : NT} (h : stmtNT s = some nt) : okB nt = true := by
  unfold stmtNT at h
  repeat' (first | (cases h; done) | (cases h; rfl) | split at h)
set_option maxHeartbeats 1000000 in
theorem okB_first {s : List UInt8} {nt : NT} (h : firstNT s = some nt) : okB nt = true := by
  unfold firstNT at h
  by_cases e0 : s = [110, 117, 109, 98, 101, 114]
  · rw [if_pos e0] at h; cases h; rfl
  rw [if_neg e0] at h
  by_cases e1 : s = [110, 97, 109, 101]
  · rw [if_pos e1] at h; cases h; rfl
  rw [if_neg e1] at h
  by_cases e2 : s = [110, 117, 108, 108]
  · rw [if_pos e2] at h; cases h; rfl
  rw [if_neg e2] at h
  by_cases e3 : s = [114, 111, 111, 116]
  · rw [if_pos e3] at h; cases h; rfl
  rw [if_neg e3] at h
  by_cases e4 : s = [110, 101, 119]
  · rw [if_pos e4] at h; cases h; rfl
  rw [if_neg e4] at h
  by_cases e5 : s = [97, 114, 114]
  · rw [if_pos e5] at h; cases h; rfl
  rw [if_neg e5] at h
  by_cases e6 : s = [108, 101, 110]
  · rw [if_pos e6] at h; cases h; rfl
  rw [if_neg e6] at h
  by_cases e7 : s = [105, 110]
  · rw [if_pos e7] at h; cases h; rfl
  rw [if_neg e7] at h
  by_cases e8 : s = [105, 109, 103]
  · rw [if_pos e8] at h; cases h; rfl
  rw [if_neg e8] at h
  by_cases e9 : s = [115, 105, 122, 101]
  · rw [if_pos e9] at h; cases h; rfl
  rw [if_neg e9] at h
  by_cases e10 : s = [112, 114, 111, 109, 111, 116, 101]
  · rw [if_pos e10] at h; cases h; rfl
  rw [if_neg e10] at h
  by_cases e11 : s = [40]
  · rw [if_pos e11] at h; cases h; rfl
  rw [if_neg e11] at h
  cases h

def ZOK (x : PN) : Prop := (x.kind = 1 ∨ x.kind = 14) → x.pl = 0
theorem laySg_zero : ∀ (acc : List Tok) (n : Nat) (ns : List PN), (∀ x ∈ ns, ZOK x) → ∀ x ∈ (laySg acc n ns).2, ZOK x
  | [], n, ns, h => h
  | t :: r, n, ns, h => by
    simp only [laySg]
    refine laySg_zero r _ _ (fun x hx => ?_)
    rcases List.mem_append.1 hx with hx | hx
    · exact h x hx
    · simp at hx; subst hx; intro h; simp at h
theorem keep_zero {ts : List Tok} : ∀ (f : Nat) (nt : NT) (i : Nat) (ns : List PN), okB nt = true → Keep ZOK ns (P ts f nt i ns) := by
  intro f
  have lv : ∀ k t ks p, (k != 1 && k != 14) = true → ZOK ⟨k, t, ks, p⟩ := fun k t ks p hk h => by
    simp at hk
    simp only at h
    omega
  induction f with
  | zero => intro nt i ns _; exact Keep.none
  | succ f ih =>
    intro nt i ns ho
    cases nt
    all_goals simp only [P]
    case laySigns acc n =>
      intro v j ms e hn
      cases e
      exact laySg_zero acc n ns hn
    all_goals
      repeat (first
        | exact Keep.err
        | exact Keep.ok
        | exact Keep.lay (fun _ => rfl)
        | exact Keep.lay (lv _ _ _ _ rfl)
        | exact Keep.lay (lv _ _ _ _ ho)
        | exact ih _ _ _ rfl
        | exact ih _ _ _ (okB_decl (by assumption))
        | exact ih _ _ _ (okB_stmt (by assumption))
        | exact ih _ _ _ (okB_first (by assumption))
        | (refine ih _ _ _ ?_; split <;> rfl)
        | refine Keep.want ?_
        | (refine Keep.bind ?_ fun v j ms => ?_)
        | split)
theorem prg_zero {s : ByteArray} {ms : List PN} (h : prgL s = .ok ms) : ∀ x ∈ ms, ZOK x := by
  rcases hsc : sc s 0 with ⟨ts, _ | ⟨p, c⟩⟩
  · rw [prgL_after hsc rfl] at h
    have hT : Toks (withEnd s ts) := (toks_of (by rw [hsc])).1
    generalize withEnd s ts = us at *
    unfold afterL at h
    split at h
    · cases h
    · split at h
      · cases h
      · rename_i v j ns hr
        split at h
        · cases h
        · split at h
          · cases h
          · cases h
            have hh := (fullP_eq hT).trans (congrArg some hr)
            exact keep_zero _ .prog _ _ rfl v j ms hh (by simp)
  · unfold prgL at h
    rw [hsc] at h
    cases h
end Go.Proofs.YtekjfddcbcijdaaGreatDoor
