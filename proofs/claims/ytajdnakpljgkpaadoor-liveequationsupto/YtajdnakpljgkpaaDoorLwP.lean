/-
  That what the program tells and what the document tells are one, purely: both are of the least sets; no condition.
-/
import Derived.Test.YtajdnakpljgkpaaDoorRfB
import Derived.Test.YtajdnakpljgkpaaDoorDdB
namespace Go.Proofs.YtajdnakpljgkpaaDoor
open Go.RowKit
set_option linter.unusedVariables false
set_option linter.unusedSimpArgs false

theorem tab_eq {L : List In} {rs : Int} {P : Nat → Pl} {S : Nat → Nat → Bool} (h : Least L rs (fun i r => hasS (P i).s r = true)) (k : Least L rs (fun i r => r < regN rs ∧ S i r = true)) : tabL P L.length = rtab S (regN rs) L.length := by
  unfold tabL rtab
  apply List.map_congr_left
  intro i hi
  have hi' : i < L.length := by simpa using hi
  unfold regR
  congr 1
  rw [regsN_eq, filter_range_more (m := regN rs) (by have := regN_le rs; omega) (fun r hr => ((h.iff k hi').1 hr).1)]
  apply List.filter_congr
  intro r hr
  have hr' : r < regN rs := by simpa using hr
  have := h.iff k (p := i) (r := r) hi'
  cases h1 : hasS (P i).s r <;> cases h2 : S i r <;> simp_all
/-- Whether the document calls an instruction dead. -/
def deadR (S : Nat → Nat → Bool) (L : List In) (rs : Int) (i : Nat) : Bool := match L[i]? with
  | none => false
  | some x => decide (cnt rs (wrI x)) && !((nextL L i).any fun k => S k.toNat (wrI x).toNat)
def rdeadN (S : Nat → Nat → Bool) (L : List In) (rs : Int) (n : Nat) : List Int := ((List.range n).filter (deadR S L rs)).map (fun i : Nat => (i : Int))
theorem rdeadN_succ (S : Nat → Nat → Bool) (L : List In) (rs : Int) (n : Nat) : rdeadN S L rs (n + 1) = rdeadN S L rs n ++ (if deadR S L rs n = true then [(n : Int)] else []) := by
  unfold rdeadN
  rw [List.range_succ, List.filter_append, List.map_append]
  congr 1
  by_cases h : deadR S L rs n = true
  · simp [h]
  · simp [h]
theorem rdeadN_len (S : Nat → Nat → Bool) (L : List In) (rs : Int) (n : Nat) : (rdeadN S L rs n).length ≤ n := by
  unfold rdeadN
  have := List.length_filter_le (deadR S L rs) (List.range n)
  simpa using this
theorem cntB_iff (rs r : Int) : cntB rs r = true ↔ cnt rs r := by unfold cntB; exact decide_eq_true_iff
theorem any_same {p q : Int → Bool} : ∀ (l : List Int), (∀ z ∈ l, p z = q z) → l.any p = l.any q
  | [], _ => rfl
  | z :: l, h => by rw [List.any_cons, List.any_cons, h z List.mem_cons_self, any_same l (fun y hy => h y (List.mem_cons_of_mem _ hy))]
theorem dead_eq {L : List In} {rs : Int} {P : Nat → Pl} {S : Nat → Nat → Bool} (h : Least L rs (fun i r => hasS (P i).s r = true)) (hw : ∀ (i : Nat) (x : In), L[i]? = some x → (P i).wr = wrB rs x) (k : Least L rs (fun i r => r < regN rs ∧ S i r = true)) (hn : ∀ (i : Nat) (z : Int), z ∈ nextL L i → ∃ m : Nat, z = (m : Int) ∧ m < L.length) : deadN P L L.length = rdeadN S L rs L.length := by
  unfold deadN rdeadN
  congr 1
  apply List.filter_congr
  intro i hi
  have hi' : i < L.length := by simpa using hi
  have hx := List.getElem?_eq_getElem hi'
  generalize L[i] = x at hx
  unfold deadB deadR
  rw [hx, hw i x hx]
  unfold wrB
  by_cases hc : cnt rs (wrI x)
  · rw [if_pos ((cntB_iff _ _).2 hc)]
    have hne : (wrI x != -1) = true := by have := hc.1; simp; omega
    rw [hne]
    simp only [hc, decide_true, Bool.true_and]
    congr 1
    unfold wantB
    apply any_same
    intro z hz
    obtain ⟨m, rfl, hm⟩ := hn i z hz
    simp only [Int.toNat_natCast]
    have e := h.iff k (p := m) (r := (wrI x).toNat) hm
    have hr : (wrI x).toNat < regN rs := (reg_cnt rs _).1 (by rw [Int.toNat_of_nonneg hc.1]; exact hc)
    have h3 : decide (0 ≤ wrI x ∧ wrI x < 1000) = true := by have := hc.1; have := hc.2.2; simp; omega
    unfold hasI
    rw [h3, Bool.true_and]
    cases h1 : hasS (P m).s (wrI x).toNat <;> cases h2 : S m (wrI x).toNat <;> simp_all
  · rw [if_neg (fun e => hc ((cntB_iff _ _).1 e))]
    simp [hc]
/-- The example: its code, and what its least sets are. -/
def exC : List In := [⟨1, 0, 0, 0, 0, none, 0, []⟩, ⟨1, 0, 0, 0, 1, none, 0, []⟩, ⟨24, 0, 0, 0, 0, none, 0, []⟩]
def exS (i r : Nat) : Bool := decide (i = 2 ∧ r = 0)
theorem ex_least : Least exC 1 (fun i r => r < regN 1 ∧ exS i r = true) where
  cl := by
    refine ⟨fun p x r hx hr hc => ?_, fun p x k r hx hk hS hc hw => ?_⟩
    · have hlt : p < 3 := (List.getElem?_eq_some_iff.1 hx).1
      refine ⟨(reg_cnt _ _).1 hc, ?_⟩
      rcases (by omega : p = 0 ∨ p = 1 ∨ p = 2) with rfl | rfl | rfl
      · cases hx
        rw [show rdL ⟨1, 0, 0, 0, 0, none, 0, []⟩ = [] by decide] at hr
        cases hr
      · cases hx
        rw [show rdL ⟨1, 0, 0, 0, 1, none, 0, []⟩ = [] by decide] at hr
        cases hr
      · cases hx
        rw [show rdL ⟨24, 0, 0, 0, 0, none, 0, []⟩ = [0] by decide] at hr
        have : r = 0 := by simpa using hr
        simp [exS, this]
    · have hlt : p < 3 := (List.getElem?_eq_some_iff.1 hx).1
      obtain ⟨h1, h2⟩ := hS
      have hk2 : k = 2 ∧ r = 0 := by simpa [exS] using h2
      obtain ⟨rfl, rfl⟩ := hk2
      rcases (by omega : p = 0 ∨ p = 1 ∨ p = 2) with rfl | rfl | rfl
      · rw [show nextL exC (0 : Nat) = [1] by decide] at hk
        simp at hk
      · cases hx
        exact absurd (show ((0 : Nat) : Int) = wrI ⟨1, 0, 0, 0, 1, none, 0, []⟩ by decide) hw
      · rw [show nextL exC (2 : Nat) = [] by decide] at hk
        cases hk
  le := by
    intro T hT p r hp hS
    obtain ⟨h1, h2⟩ := hS
    have hk2 : p = 2 ∧ r = 0 := by simpa [exS] using h2
    obtain ⟨rfl, rfl⟩ := hk2
    exact hT.rd 2 ⟨24, 0, 0, 0, 0, none, 0, []⟩ 0 rfl (by decide) (by decide)
theorem ex_next : ∀ (i : Nat) (z : Int), z ∈ nextL exC i → ∃ m : Nat, z = (m : Int) ∧ m < exC.length := fun i z hz => next_in hz
theorem ex_tab {P : Nat → Pl} (h : Least exC 1 (fun i r => hasS (P i).s r = true)) : tabL P 3 = [[], [], [0]] := (tab_eq h ex_least).trans (by decide)
theorem ex_dead {P : Nat → Pl} (h : Least exC 1 (fun i r => hasS (P i).s r = true)) (hw : ∀ (i : Nat) (x : In), exC[i]? = some x → (P i).wr = wrB 1 x) : deadN P exC 3 = [0] := (dead_eq h hw ex_least ex_next).trans (by decide)
end Go.Proofs.YtajdnakpljgkpaaDoor
