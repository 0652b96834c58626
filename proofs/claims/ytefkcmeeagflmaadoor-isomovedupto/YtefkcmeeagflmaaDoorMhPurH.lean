/-
  Heaps that are alike are shown alike; pure.
-/
import Derived.Test.YtefkcmeeagflmaaDoorMhPurG
namespace Go.Proofs.YtefkcmeeagflmaaDoor
open Go.RowKit
set_option linter.unusedVariables false
set_option linter.unusedSimpArgs false

theorem lst_congr {A : List (Int × List (Int × Int))} {f g : Int × Int → List Int → List UInt8 × List Int} {N : Nat} (hp : ∀ v out, ∃ t, (f v out).2 = out ++ t) (h : ∀ v out, lft (fun _ => 1) A out < N → f v out = g v out) : ∀ (s : List UInt8) (x : List (Int × Int)) (out : List Int), lft (fun _ => 1) A out < N → lstR f s x out = lstR g s x out
  | _, [], _, _ => rfl
  | s, v :: r, out, ho => by
    obtain ⟨t, ht⟩ := hp v out
    have hlt : lft (fun _ => 1) A (f v out).2 < N := by rw [ht]; exact Nat.lt_of_le_of_lt (lft_app _ _ _ _) ho
    have ih := lst_congr hp h [32] r (f v out).2 hlt
    rw [lstR, lstR, ← h v out ho, ih]
theorem val_fuel (A : List (Int × List (Int × Int))) : ∀ (n m : Nat) (v : Int × Int) (out : List Int), lft (fun _ => 1) A out < n → lft (fun _ => 1) A out < m → valR A n v out = valR A m v out
  | 0, _, _, _, h, _ => by omega
  | _, 0, _, _, _, h => by omega
  | n + 1, m + 1, v, out, h1, h2 => by
    rw [valR, valR]
    cases ht : thingAt A v with
    | none => rfl
    | some o =>
      cases hi : idx out v.2 with
      | some k => rfl
      | none =>
        have h3 := lft_one (fun _ => 1) ht hi
        have := lst_congr (A := A) (f := valR A n) (g := valR A m) (N := min n m) (val_pre A n) (fun v out ho => val_fuel A n m v out (by omega) (by omega)) (sep0 o.1) o.2 (out ++ [v.2]) (by omega)
        simp only [this]

/-- Numbers that stand for one another, one by one. -/
def R2 (R : Int → Int → Prop) : List Int → List Int → Prop
  | [], [] => True
  | a :: x, b :: y => R a b ∧ R2 R x y
  | _, _ => False
theorem R2.len {R : Int → Int → Prop} : ∀ {x y : List Int}, R2 R x y → x.length = y.length
  | [], [], _ => rfl
  | a :: x, b :: y, h => by simp [R2.len h.2]
  | [], _ :: _, h => by cases h
  | _ :: _, [], h => by cases h
theorem R2.snoc {R : Int → Int → Prop} {i j : Int} (hij : R i j) : ∀ {x y : List Int}, R2 R x y → R2 R (x ++ [i]) (y ++ [j])
  | [], [], _ => ⟨hij, trivial⟩
  | a :: x, b :: y, h => ⟨h.1, R2.snoc hij h.2⟩
  | [], _ :: _, h => by cases h
  | _ :: _, [], h => by cases h
theorem R2.idx {A B : List (Int × List (Int × Int))} {R : Int → Int → Prop} (hR : OkR A B R) {i j : Int} (hij : R i j) : ∀ {x y : List Int}, R2 R x y → idx x i = idx y j
  | [], [], _ => rfl
  | a :: x, b :: y, h => by
    have ih := R2.idx hR hij h.2
    simp only [Go.Proofs.YtefkcmeeagflmaaDoor.idx]
    by_cases ha : a = i
    · subst ha
      have : b = j := hR.one _ _ _ h.1 hij
      rw [if_pos rfl, if_pos this]
    · have hb : b ≠ j := fun e => ha (by subst e; exact hR.uno _ _ _ h.1 hij)
      rw [if_neg ha, if_neg hb, ih]
  | [], _ :: _, h => by cases h
  | _ :: _, [], h => by cases h

theorem lst_lock {A B : List (Int × List (Int × Int))} {R : Int → Int → Prop} {f g : Int × Int → List Int → List UInt8 × List Int} (h : ∀ p q oa ob, OkV A B R p q → R2 R oa ob → (f p oa).1 = (g q ob).1 ∧ R2 R (f p oa).2 (g q ob).2) : ∀ (s : List UInt8) (x y : List (Int × Int)) (oa ob : List Int), OkL A B R x y → R2 R oa ob → (lstR f s x oa).1 = (lstR g s y ob).1 ∧ R2 R (lstR f s x oa).2 (lstR g s y ob).2
  | s, [], [], oa, ob, _, ho => ⟨rfl, ho⟩
  | s, p :: x, q :: y, oa, ob, hx, ho => by
    obtain ⟨h1, h2⟩ := h p q oa ob hx.1 ho
    obtain ⟨h3, h4⟩ := lst_lock h [32] x y _ _ hx.2 h2
    rw [lstR, lstR]
    exact ⟨by simp only [h1, h3], h4⟩
  | _, [], _ :: _, _, _, hx, _ => by cases hx
  | _, _ :: _, [], _, _, hx, _ => by cases hx
theorem val_lock {A B : List (Int × List (Int × Int))} {R : Int → Int → Prop} (hR : OkR A B R) : ∀ (n : Nat) (p q : Int × Int) (oa ob : List Int), OkV A B R p q → R2 R oa ob → (valR A n p oa).1 = (valR B n q ob).1 ∧ R2 R (valR A n p oa).2 (valR B n q ob).2
  | 0, p, q, oa, ob, _, ho => ⟨rfl, ho⟩
  | n + 1, p, q, oa, ob, hv, ho => by
    unfold OkV at hv
    rw [valR, valR]
    cases ha : thingAt A p with
    | none =>
      cases hb : thingAt B q with
      | none =>
        rw [ha, hb] at hv
        have hv' : p = q := hv
        subst hv'
        exact ⟨rfl, ho⟩
      | some b => rw [ha, hb] at hv; cases hv
    | some a =>
      cases hb : thingAt B q with
      | none => rw [ha, hb] at hv; cases hv
      | some b =>
        rw [ha, hb] at hv
        have hv' : R p.2 q.2 := hv
        have hix := R2.idx hR hv' ho
        simp only [← hix]
        cases hi : idx oa p.2 with
        | some k => exact ⟨rfl, ho⟩
        | none =>
          obtain ⟨a', b', h1, h2, h3, h4⟩ := hR.alike _ _ hv'
          rw [← thing_two ha, ha] at h1
          rw [← thing_two hb, hb] at h2
          injection h1 with h1
          injection h2 with h2
          subst h1 h2
          obtain ⟨h5, h6⟩ := lst_lock (val_lock hR n) (sep0 a.1) a.2 b.2 _ _ h4 (R2.snoc hv' ho)
          rw [← h3]
          refine ⟨?_, h6⟩
          simp only [h5, ho.len]

theorem show_fuel (A : List (Int × List (Int × Int))) (x : List (Int × Int)) (n : Nat) (hn : A.length < n) : lstR (valR A (A.length + 1)) [] x [] = lstR (valR A n) [] x [] :=
  lst_congr (A := A) (N := A.length + 1) (val_pre A _) (fun v out ho => val_fuel A _ _ v out ho (by omega)) [] x [] (lft_len A [])
theorem show_alike {A B : List (Int × List (Int × Int))} {x y : List (Int × Int)} (h : Alike A x B y) : showR A x = showR B y := by
  obtain ⟨R, hR, hx⟩ := h
  unfold showR
  rw [show_fuel A x (A.length + B.length + 1) (by omega), show_fuel B y (A.length + B.length + 1) (by omega)]
  exact (lst_lock (val_lock hR _) [] x y [] [] hx trivial).1
end Go.Proofs.YtefkcmeeagflmaaDoor
