/-
  That the least sets meet their equations, purely; no condition.
-/
import Derived.Test.YtajdnakpljgkpaaDoorRfB
namespace Go.Proofs.YtajdnakpljgkpaaDoor
open Go.RowKit
set_option linter.unusedVariables false
set_option linter.unusedSimpArgs false

theorem least_eqn {L : List In} {rs : Int} {S : Nat → Nat → Prop} (h : Least L rs S) {p : Nat} {x : In} {r : Nat} (hx : L[p]? = some x) : S p r ↔ (cnt rs r ∧ ((∃ k : Nat, (k : Int) ∈ nextL L p ∧ S k r ∧ (r : Int) ≠ wrI x) ∨ (r : Int) ∈ rdL x)) := by
  have hp : p < L.length := (List.getElem?_eq_some_iff.1 hx).1
  constructor
  · intro hs
    let T : Nat → Nat → Prop := fun p r => ∃ x, L[p]? = some x ∧ Go.Proofs.YtajdnakpljgkpaaDoor.cnt rs r ∧ ((∃ k : Nat, (k : Int) ∈ nextL L p ∧ S k r ∧ (r : Int) ≠ wrI x) ∨ (r : Int) ∈ rdL x)
    have hT : Closed L rs T := by
      refine ⟨fun p x r hx hr hc => ⟨x, hx, hc, .inr hr⟩, fun p x k r hx hk hs hc hw => ⟨x, hx, hc, .inl ⟨k, hk, ?_, hw⟩⟩⟩
      obtain ⟨y, hy, hcy, h1 | h1⟩ := hs
      · obtain ⟨m, hm, hsm, hwm⟩ := h1
        exact h.cl.nx k y m r hy hm hsm hcy hwm
      · exact h.cl.rd k y r hy h1 hcy
    obtain ⟨y, hy, hc, ho⟩ := h.le T hT p r hp hs
    rw [hx] at hy
    cases hy
    exact ⟨hc, ho⟩
  · rintro ⟨hc, h1 | h1⟩
    · obtain ⟨k, hk, hs, hw⟩ := h1
      exact h.cl.nx p x k r hx hk hs hc hw
    · exact h.cl.rd p x r hx h1 hc
theorem reg_mem (s : Nat → Nat) (r : Nat) : (r : Int) ∈ (regsN s 16).map (fun r : Nat => (r : Int)) ↔ r < 1024 ∧ hasS s r = true := by
  rw [regsN_eq]
  simp only [List.mem_map, List.mem_filter, List.mem_range]
  constructor
  · rintro ⟨a, ⟨h1, h2⟩, h3⟩
    have : a = r := by omega
    subst this
    exact ⟨h1, h2⟩
  · rintro ⟨h1, h2⟩
    exact ⟨r, ⟨h1, h2⟩, rfl⟩
theorem reg_is {s : Nat → Nat} {q : Nat} {z : Int} (h : ((regsN s 16).map (fun r : Nat => (r : Int)))[q]? = some z) : ∃ r : Nat, z = (r : Int) ∧ r < 1024 ∧ hasS s r = true := by
  have hm := List.mem_of_getElem? h
  have hm' := hm
  simp only [List.mem_map] at hm
  obtain ⟨a, h1, rfl⟩ := hm
  exact ⟨a, rfl, (reg_mem s a).1 hm'⟩
theorem reg_same {s : Nat → Nat} {nw : Nat → Bool} {R : Nat} (hR : R ≤ 1024) (h1 : ∀ r, hasS s r = true → r < R) (h2 : ∀ r, r < R → (nw r = true ↔ hasS s r = true)) : (regsN s 16).map (fun r : Nat => (r : Int)) = regR (fun _ => nw) 0 R := by
  unfold regR
  congr 1
  rw [regsN_eq, filter_range_more hR h1]
  apply List.filter_congr
  intro r hr
  have := h2 r (by simpa using hr)
  cases h3 : hasS s r <;> cases h4 : nw r <;> simp_all
end Go.Proofs.YtajdnakpljgkpaaDoor
