/-
  A row of one's own, sorted and made compact by the library.
-/
import Derived.Test.YtkogfgbgmifcnaaDoorTcW
import Derived.Sort.OwnSortedInts
import Derived.Lib.RowBridge
namespace Go.Proofs.YtkogfgbgmifcnaaDoor
open Go.RowKit Go.Shelf Go.Maps Go.ChangeShapes Go.Sort
set_option linter.unusedVariables false
set_option linter.unusedSimpArgs false
theorem own_take {w : World} {B n m size : Nat} {e : TypeId} {g c : Nat} {xs : List Value} (h : w.ownsRow B e size (.slice (some ⟨g, 0, none⟩) n c) n xs) (hm : m ≤ n) : w.ownsRow B e size (.slice (some ⟨g, 0, none⟩) m c) m (xs.take (m * size)) := by
  have hmn := Nat.mul_le_mul_right size hm
  refine ⟨by rw [List.length_take, h.1]; omega, ?_⟩
  rcases h.2 with ⟨h0, _⟩ | ⟨g', cap, cur, hv, hb, hg, hn, hcap, hs, ht⟩
  · cases h0
  · cases hv
    refine .inr ⟨g, c, cur, rfl, hb, hg, by omega, hcap, hs, ?_⟩
    rw [← ht, List.take_take]
    congr 1
    omega
theorem sort34 {w : World} {B c : Nat} {a : Option Addr} {L : List Int} (ho : w.ownsRow B 3 1 (.slice a L.length c) L.length (L.map (Value.int .i64))) (hsz : L.length < 4611686018427387904) :
    Calls Tryd.prog 34 #[.slice a L.length c] w fun e w' => e = .returned (.tuple #[]) ∧ Fr (Value.slice a L.length c).ownBlock.toList w w' ∧ w'.ownsRow B 3 1 (.slice a L.length c) L.length ((L.mergeSort fun x y => decide (x ≤ y)).map (Value.int .i64)) := by
  rcases ho.2 with ⟨h0, hn⟩ | ⟨g, cap, cur, hv, hb, hg, hn, hcap, hs, ht⟩
  · cases List.length_eq_zero_iff.1 hn
    have := Tryd.slices_Sort_int_none a c w
    refine this.mono ?_
    rintro e w' ⟨rfl, rfl⟩
    refine ⟨rfl, (Fr.refl [] _).sub (by simp), ?_⟩
    simpa using ho
  · cases hv
    rw [Nat.mul_one] at ht hs
    have hH := holds_of_blockI hg ht
    refine (Tryd.slices_Sort_int g 0 c L w hH (at_lt hg) hsz).mono ?_
    rintro e w' ⟨rfl, n, os, rfl⟩
    exact ⟨rfl, Fr.ofGrown (grownBy_sortedI _), ownsRow_sortedI (by simp) hb hg hn hcap (by omega)⟩
theorem compact35 {w : World} {B c : Nat} {a : Option Addr} {L : List Int} (ho : w.ownsRow B 3 1 (.slice a L.length c) L.length (L.map (Value.int .i64))) (hsz : L.length < 4611686018427387904) :
    Calls Tryd.prog 35 #[.slice a L.length c] w fun e w' => e = .returned (.slice a (Lib.compact L).length c) ∧ Fr (Value.slice a L.length c).ownBlock.toList w w' ∧ w'.ownsRow B 3 1 (.slice a (Lib.compact L).length c) (Lib.compact L).length ((Lib.compact L).map (Value.int .i64)) := by
  rcases ho.2 with ⟨h0, hn⟩ | ⟨g, cap, cur, hv, hb, hg, hn, hcap, hs, ht⟩
  · cases List.length_eq_zero_iff.1 hn
    refine (Tryd.slices_Compact_int_empty a c w).mono ?_
    rintro e w' ⟨rfl, rfl⟩
    exact ⟨rfl, (Fr.refl [] _).sub (by simp), by simpa [Lib.compact, Lib.compactUpTo] using ho⟩
  · cases hv
    rw [Nat.mul_one] at ht hs
    have hH := holds_of_blockI hg ht
    have hl := Lib.compact_length_le L
    refine (Tryd.slices_Compact_int g 0 c L w hH (by omega) hn).mono ?_
    rintro e w' ⟨rfl, q, rfl⟩
    have hg1 : w.grownBy (putRow (Value.int .i64) (Sort.ahead w q) g 0 (Lib.compact L ++ List.replicate (L.length - (Lib.compact L).length) 0).toArray) (some g) := by
      have := grownBy_sortedI (w := w) (g := g) (n := q) (os := #[]) (Lib.compact L ++ List.replicate (L.length - (Lib.compact L).length) 0).toArray
      rwa [grow_empty] at this
    have ho1 := ownsRow_sortedI (w := w) (base := B) (g := g) (cap := c) (n := q) (e := 3) (os := #[]) (cur := cur) (ss := L) (ts := Lib.compact L ++ List.replicate (L.length - (Lib.compact L).length) 0) (by simp; omega) hb hg hn hcap (by omega)
    rw [grow_empty] at ho1
    refine ⟨rfl, Fr.ofGrown hg1, ?_⟩
    have := own_take ho1 hl
    simpa using this
end Go.Proofs.YtkogfgbgmifcnaaDoor
