/-
  The document's sets, purely: rows that grow pass by pass are the least when a pass changes none; no condition.
-/
import Derived.Test.YtajdnakpljgkpaaDoorLvQ
import Derived.Test.YtajdnakpljgkpaaDoorIrD
import Derived.Deep.OwnRows
namespace Go.Proofs.YtajdnakpljgkpaaDoor
open Go.RowKit
set_option linter.unusedVariables false
set_option linter.unusedSimpArgs false

def regN (rs : Int) : Nat := (min (max rs 0) 1000).toNat
theorem reg_cnt (rs : Int) (r : Nat) : cnt rs r ↔ r < regN rs := by unfold cnt regN; omega
theorem regN_le (rs : Int) : regN rs ≤ 1000 := by unfold regN; omega
theorem wT_two : ∀ n, n < 29 → writesT.getD n [] = [] ∨ writesT.getD n [] = [65] := by decide
theorem rwr_eq (x : In) : (if wT x.op = [] then -1 else x.a) = wrI x := by
  unfold wrI wT
  rcases wT_two _ (rowN_lt x.op) with h | h
  · rw [h]; simp [regsL, wrL]
  · rw [h]; simp [regsL, regs1, wrL]

/-- How many are not in a row, and in all rows. -/
def rowF (R : Nat) (s : Nat → Bool) : Nat := ((List.range R).filter (fun r => !s r)).length
def cntF (R : Nat) : Nat → (Nat → Nat → Bool) → Nat
  | 0, _ => 0
  | n + 1, S => cntF R n S + rowF R (S n)
theorem rowF_most (R : Nat) (s : Nat → Bool) : rowF R s ≤ R := by
  unfold rowF
  have := List.length_filter_le (fun r => !s r) (List.range R)
  simpa using this
theorem cntF_most (R : Nat) (S : Nat → Nat → Bool) : ∀ n, cntF R n S ≤ n * R
  | 0 => by simp [cntF]
  | n + 1 => by
    have := cntF_most R S n
    have := rowF_most R (S n)
    rw [cntF, Nat.add_mul]
    omega
theorem cntF_congr {R : Nat} {S T : Nat → Nat → Bool} : ∀ n, (∀ i, i < n → S i = T i) → cntF R n S = cntF R n T
  | 0, _ => rfl
  | n + 1, h => by rw [cntF, cntF, cntF_congr n (fun i hi => h i (by omega)), h n (by omega)]
/-- A row with more in it. -/
def joinR (S : Nat → Nat → Bool) (a : Nat) (nw : Nat → Bool) (p : Nat) : Nat → Nat → Bool := fun i r => if i = a ∧ r < p then S i r || nw r else S i r
theorem joinR_0 (S : Nat → Nat → Bool) (a : Nat) (nw : Nat → Bool) : joinR S a nw 0 = S := by funext i r; simp [joinR]
theorem joinR_row (S : Nat → Nat → Bool) (a : Nat) (nw : Nat → Bool) (p i : Nat) (h : i ≠ a) : joinR S a nw p i = S i := by funext r; simp [joinR, h]
theorem cntF_lt {R : Nat} {S : Nat → Nat → Bool} {a : Nat} {nw : Nat → Bool} {q : Nat} (hq : q < R) (h1 : nw q = true) (h2 : S a q = false) : ∀ n, a < n → cntF R n (joinR S a nw R) < cntF R n S
  | n + 1, ha => by
    rw [cntF, cntF]
    by_cases e : a = n
    · subst e
      have h3 : rowF R (joinR S a nw R a) < rowF R (S a) := by
        unfold rowF
        refine filter_lt (p := fun r => !S a r) (q := fun r => !joinR S a nw R a r) (fun r hr => ?_) q (by simpa using hq) (by simp [h2]) (by simp [joinR, hq, h1])
        simp only [joinR] at hr
        cases hs : S a r with
        | false => rfl
        | true =>
          rw [hs] at hr
          split at hr <;> simp at hr
      rw [cntF_congr a (fun i hi => joinR_row S a nw R i (by omega))]
      omega
    · have := cntF_lt hq h1 h2 n (by omega)
      rw [joinR_row S a nw R n (fun h => e h.symm)]
      omega
theorem joinR_same {S : Nat → Nat → Bool} {a : Nat} {nw : Nat → Bool} {R : Nat} (h : ∀ r, r < R → nw r = true → S a r = true) : joinR S a nw R = S := by
  funext i r
  unfold joinR
  split
  · rename_i h1
    obtain ⟨rfl, h2⟩ := h1
    cases hn : nw r with
    | false => simp
    | true => simp [h r h2 hn]
  · rfl
/-- Whether a row has grown in its first p. -/
def grew (S : Nat → Nat → Bool) (a : Nat) (nw : Nat → Bool) (p : Nat) : Bool := (List.range p).any (fun r => nw r && !S a r)
theorem grew_succ (S : Nat → Nat → Bool) (a : Nat) (nw : Nat → Bool) (p : Nat) : grew S a nw (p + 1) = (grew S a nw p || (nw p && !S a p)) := by
  unfold grew
  rw [List.range_succ, List.any_append]
  simp
theorem grew_yes {S : Nat → Nat → Bool} {a : Nat} {nw : Nat → Bool} {p : Nat} (h : grew S a nw p = true) : ∃ q, q < p ∧ nw q = true ∧ S a q = false := by
  unfold grew at h
  simp at h
  obtain ⟨q, h1, h2, h3⟩ := h
  exact ⟨q, h1, h2, h3⟩
theorem grew_no {S : Nat → Nat → Bool} {a : Nat} {nw : Nat → Bool} {p : Nat} (h : grew S a nw p = false) : ∀ r, r < p → nw r = true → S a r = true := by
  unfold grew at h
  simp at h
  exact h

/-- What must be in a row. -/
def nowP (L : List In) (S : Nat → Nat → Bool) (a : Nat) (x : In) (r : Nat) : Prop := (∃ k : Nat, (k : Int) ∈ nextL L a ∧ S k r = true ∧ (r : Int) ≠ wrI x) ∨ (r : Int) ∈ rdL x
def soundS (L : List In) (rs : Int) (S : Nat → Nat → Bool) : Prop := ∀ T : Nat → Nat → Prop, Closed L rs T → ∀ i r, i < L.length → r < regN rs → S i r = true → T i r
def shutS (L : List In) (rs : Int) (S : Nat → Nat → Bool) (i : Nat) : Prop := ∀ (x : In) (r : Nat), L[i]? = some x → r < regN rs → nowP L S i x r → S i r = true
theorem sound_join {L : List In} {rs : Int} {S : Nat → Nat → Bool} (h : soundS L rs S) {a : Nat} {x : In} (hx : L[a]? = some x) {nw : Nat → Bool} (hn : ∀ r, r < regN rs → nw r = true → nowP L S a x r) : soundS L rs (joinR S a nw (regN rs)) := by
  intro T hT i r hi hr hs
  unfold joinR at hs
  split at hs
  · rename_i h1
    obtain ⟨rfl, h2⟩ := h1
    simp only [Bool.or_eq_true] at hs
    rcases hs with hs | hs
    · exact h T hT i r hi hr hs
    · rcases hn r hr hs with ⟨k, hk, hsk, hne⟩ | hm
      · obtain ⟨m, e, hm⟩ := next_in hk
        have : k = m := by omega
        subst this
        exact hT.nx i x k r hx hk (h T hT k r hm hr hsk) ((reg_cnt rs r).2 hr) hne
      · exact hT.rd i x r hx hm ((reg_cnt rs r).2 hr)
  · exact h T hT i r hi hr hs
theorem least_S {L : List In} {rs : Int} {S : Nat → Nat → Bool} (h : soundS L rs S) (hc : ∀ i, i < L.length → shutS L rs S i) : Least L rs (fun i r => r < regN rs ∧ S i r = true) where
  cl := ⟨fun p x r hx hm hcn => ⟨(reg_cnt rs r).1 hcn, hc p (List.getElem?_eq_some_iff.1 hx).1 x r hx ((reg_cnt rs r).1 hcn) (.inr hm)⟩,
    fun p x k r hx hk hs hcn hne => ⟨(reg_cnt rs r).1 hcn, hc p (List.getElem?_eq_some_iff.1 hx).1 x r hx ((reg_cnt rs r).1 hcn) (.inl ⟨k, hk, hs.2, hne⟩)⟩⟩
  le := fun T hT i r hi hr => h T hT i r hi hr.1 hr.2

/-- The rows in memory. -/
structure SM (X : World) (gi : Nat) (rb : Nat → Nat) (N R : Nat) (S : Nat → Nat → Bool) : Prop where
  o : X.rowIs gi 55 N (fun i => .slice (some ⟨rb i, 0, none⟩) R R)
  r : ∀ i, i < N → X.rowIs (rb i) 4 R (fun j => .bool (S i j))
  inj : ∀ i j, i < N → j < N → rb i = rb j → i = j
  gne : ∀ i, i < N → rb i ≠ gi
theorem SM.fr {X X' : World} {gi : Nat} {rb : Nat → Nat} {N R : Nat} {S : Nat → Nat → Bool} {T : List Nat} (h : SM X gi rb N R S) (f : Fr T X X') (hg : gi ∉ T) (hr : ∀ i, i < N → rb i ∉ T) : SM X' gi rb N R S :=
  ⟨h.o.of_block (f.block _ h.o.lt hg), fun i hi => (h.r i hi).of_block (f.block _ (h.r i hi).lt (hr i hi)), h.inj, h.gne⟩
/-- A cell of a row is set. -/
theorem SM.set {X : World} {gi : Nat} {rb : Nat → Nat} {N R : Nat} {S T : Nat → Nat → Bool} (h : SM X gi rb N R S) {i q : Nat} (hi : i < N) (b : Bool) (hT : ∀ j r, T j r = if j = i ∧ r = q then b else S j r) : SM (X.setCell ⟨rb i, q, none⟩ (.bool b)) gi rb N R T := by
  refine ⟨h.o.setOther (fun e => h.gne i hi e.symm) _, fun j hj => ?_, h.inj, h.gne⟩
  by_cases e : j = i
  · subst e
    refine ((h.r j hj).set q (.bool b)).congr (fun r _ => ?_)
    by_cases e2 : r = q
    · rw [if_pos e2, hT, if_pos ⟨rfl, e2⟩]
    · rw [if_neg e2, hT, if_neg (fun h => e2 h.2)]
  · refine ((h.r j hj).setOther (fun e2 => e (h.inj j i hj hi e2)) _).congr (fun r _ => ?_)
    rw [hT, if_neg (fun h => e h.1)]
end Go.Proofs.YtajdnakpljgkpaaDoor
