/-
  Things laid down in another order, with their numbers changed everywhere, are alike; pure.
-/
import Derived.Test.YtefkcmeeagflmaaDoorMhPurH
namespace Go.Proofs.YtefkcmeeagflmaaDoor
open Go.RowKit
set_option linter.unusedVariables false
set_option linter.unusedSimpArgs false

/-- A value with its thing's number changed. -/
def mvV (n : Nat) (σ : Nat → Nat) (p : Int × Int) : Int × Int := if p.1 = 2 ∧ 0 ≤ p.2 ∧ p.2 < (n : Int) then (2, (σ p.2.toNat : Int)) else p

/-- An order of n things, and its other way round. -/
structure Ord (n : Nat) (σ τ : Nat → Nat) : Prop where
  fwd : ∀ x, x < n → σ x < n ∧ τ (σ x) = x
  bwd : ∀ y, y < n → τ y < n ∧ σ (τ y) = y
theorem Ord.id (n : Nat) : Ord n (fun x => x) (fun x => x) := ⟨fun x h => ⟨h, rfl⟩, fun x h => ⟨h, rfl⟩⟩
def sw (i k x : Nat) : Nat := if x = i then k else if x = k then i else x
theorem sw_sw (i k x : Nat) : sw i k (sw i k x) = x := by
  unfold sw
  by_cases h1 : x = i
  · subst h1
    by_cases h2 : k = x
    · simp [h2]
    · simp [h2]
  · by_cases h2 : x = k
    · subst h2; simp [h1]
    · simp [h1, h2]
theorem sw_lt {i k x n : Nat} (hi : i < n) (hk : k < n) (hx : x < n) : sw i k x < n := by unfold sw; split; exact hk; split; exact hi; exact hx
theorem Ord.swap {n : Nat} {σ τ : Nat → Nat} (h : Ord n σ τ) {i k : Nat} (hi : i < n) (hk : k < n) : Ord n (fun x => σ (sw i k x)) (fun y => sw i k (τ y)) := by
  refine ⟨fun x hx => ?_, fun y hy => ?_⟩
  · obtain ⟨h1, h2⟩ := h.fwd _ (sw_lt hi hk hx)
    exact ⟨h1, by simp only [h2, sw_sw]⟩
  · obtain ⟨h1, h2⟩ := h.bwd _ hy
    exact ⟨sw_lt hi hk h1, by simp only [sw_sw, h2]⟩

theorem moved_okV {A B : List (Int × List (Int × Int))} {n : Nat} {σ τ : Nat → Nat} (hA : A.length = n) (hB : B.length = n) (hO : Ord n σ τ) (p : Int × Int) : OkV A B (fun i j => 0 ≤ i ∧ i < (n : Int) ∧ j = (σ i.toNat : Int)) p (mvV n σ p) := by
  unfold mvV
  split
  · rename_i h
    have hlt : p.2.toNat < n := by omega
    have h1 : thingAt A p = A[p.2.toNat]? := by unfold thingAt; rw [if_pos ⟨h.1, h.2.1⟩]
    have h2 : thingAt B (2, (σ p.2.toNat : Int)) = B[σ p.2.toNat]? := by unfold thingAt; simp
    have h3 := (hO.fwd _ hlt).1
    rw [List.getElem?_eq_getElem (by omega)] at h1 h2
    unfold OkV
    rw [h1, h2]
    exact ⟨h.2.1, h.2.2, rfl⟩
  · rename_i h
    have h1 : ∀ C : List (Int × List (Int × Int)), C.length = n → thingAt C p = none := fun C hC => by
      unfold thingAt
      split
      · rename_i h4
        exact List.getElem?_eq_none (by omega)
      · rfl
    unfold OkV
    rw [h1 A hA, h1 B hB]
theorem moved_okL {A B : List (Int × List (Int × Int))} {n : Nat} {σ τ : Nat → Nat} (hA : A.length = n) (hB : B.length = n) (hO : Ord n σ τ) : ∀ x : List (Int × Int), OkL A B (fun i j => 0 ≤ i ∧ i < (n : Int) ∧ j = (σ i.toNat : Int)) x (x.map (mvV n σ))
  | [] => trivial
  | p :: x => ⟨moved_okV hA hB hO p, moved_okL hA hB hO x⟩
theorem moved_alike {A B : List (Int × List (Int × Int))} {n : Nat} {σ τ : Nat → Nat} (hA : A.length = n) (hB : B.length = n) (hO : Ord n σ τ) (hAB : ∀ (i : Nat) a, A[i]? = some a → B[σ i]? = some (a.1, a.2.map (mvV n σ))) (x : List (Int × Int)) : Alike A x B (x.map (mvV n σ)) := by
  refine ⟨_, ⟨?_, ?_, ?_⟩, moved_okL hA hB hO x⟩
  · intro i j k h1 h2
    rw [h1.2.2, h2.2.2]
  · intro i j k h1 h2
    have e : σ i.toNat = σ j.toNat := by have := h1.2.2.symm.trans h2.2.2; omega
    have e1 := (hO.fwd i.toNat (by omega)).2
    have e2 := (hO.fwd j.toNat (by omega)).2
    rw [e, e2] at e1
    omega
  · rintro i j ⟨h1, h2, rfl⟩
    have hlt : i.toNat < A.length := by omega
    refine ⟨A[i.toNat], (A[i.toNat].1, A[i.toNat].2.map (mvV n σ)), ?_, ?_, rfl, moved_okL hA hB hO _⟩
    · unfold thingAt
      rw [if_pos ⟨rfl, h1⟩]
      exact List.getElem?_eq_getElem hlt
    · unfold thingAt
      simp only [true_and]
      rw [if_pos (by omega)]
      have := hAB i.toNat _ (List.getElem?_eq_getElem hlt)
      simpa using this
end Go.Proofs.YtefkcmeeagflmaaDoor
