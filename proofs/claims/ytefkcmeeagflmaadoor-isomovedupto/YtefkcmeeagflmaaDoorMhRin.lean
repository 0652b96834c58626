/-
  A list of numbers that came in.
-/
import Derived.Test.YtefkcmeeagflmaaDoorMhVf
namespace Go.Proofs.YtefkcmeeagflmaaDoor
open Go.ChangeShapes Go.WideShapes Go.ChangeAt Go.RowKit Go.Joins Go.Deep
set_option linter.unusedVariables false

set_option maxRecDepth 100000 in
theorem read_ints {H : Type} {enc : TypeId × Value → H} {w : World} {spare : Nat → Bool} {held : Bool} {fuel : Nat} {v : Value} {x : DataW H × List MemPlace} (h : DataW.trod enc Tryd.prog w 0 spare held fuel 39 [v] = some x) :
    ∃ (a0 : Option Addr) (len cap : Nat) (zs : List Int), v = .slice a0 len cap ∧ (zs.length = len ∧ ∀ (i : Nat) (z : Int), zs[i]? = some z → ∃ g o, a0 = some ⟨g, o, none⟩ ∧ g < w.heap.size ∧ w.cell? ⟨g, o + i, none⟩ = some (.int .i64 z)) ∧ len ≤ Rows.uptoBulk x.1 := by
  rcases open_slice Tryd.underlying39 h with ⟨e, rfl⟩ | ⟨a, len, cap, m, n, D, Pl, e, _, hl, hm, hmm, rfl, hc⟩
  · simp at e
    subst e
    exact ⟨none, 0, 0, [], rfl, ⟨rfl, fun i x hx => by simp at hx⟩, by simp⟩
  · simp at e
    subst e
    have hlm : len ≤ m := by rw [hmm]; split <;> omega
    rw [cells3] at hc
    have each : ∀ i, i < len → ∃ z : Int, w.cell? (a.add (i * 1)) = some (.int .i64 z) := by
      intro i hi
      obtain ⟨cs', h1, h2⟩ := hc i (by omega)
      obtain ⟨_, hlen, hcell⟩ := World.cells?_some h1
      obtain ⟨z, e0, _, _⟩ := DataW.trod_int Tryd.underlying3 h2
      refine ⟨z, ?_⟩
      have := hcell 0 (by omega)
      rw [add_add, Nat.add_zero] at this
      rw [this, e0]
      rfl
    obtain ⟨zs, hzl, hp⟩ := choose_lt each
    refine ⟨some a, len, cap, zs, rfl, ⟨hzl, fun i z hz => ?_⟩, ?_⟩
    · have hci := hp i z hz
      obtain ⟨b, off, spot⟩ := a
      have hspot : spot = none := by
        by_cases hi : i = 0
        · subst hi
          simpa [Addr.add] using World.cell?_spot hci
        · have h0 : 0 < zs.length := by have := (List.getElem?_eq_some_iff.1 hz).1; omega
          have := hp 0 zs[0] (List.getElem?_eq_getElem h0)
          simpa [Addr.add] using World.cell?_spot this
      subst hspot
      rw [Addr.add_lit, Nat.mul_one] at hci
      exact ⟨b, off, rfl, World.block_lt_of_cell? w _ hci, hci⟩
    · have := length_le ((List.range len).map D)
      simp only [Rows.uptoBulk]
      simp at this
      omega
end Go.Proofs.YtefkcmeeagflmaaDoor
