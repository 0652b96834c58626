/-
  HeapKeeps returns true, whatever it is handed, and writes to nothing that was there, told of values and worlds; no condition.
-/
import Derived.Test.YtndjoklinccfjaaHeapN
namespace Go.Proofs.Ytndjoklinccfjaa
open Go.RowKit

set_option maxHeartbeats 400000 in
theorem keeps_out (f a o : Int) (x1 x2 : Int) (w : World) (h : f < 1 ∨ 100 < f ∨ a < 0 ∨ f ≤ a ∨ o < 0 ∨ f ≤ o) :
    Calls Try.prog 4 #[.int .i64 f, .int .i64 a, .int .i64 o, .agg #[.int .i64 x1, .int .i64 x2]] w fun e w' => e = .returned (.bool true) ∧ Below w.heap.size w w' := by
  go_enter Try.func4, Try.ntmps4
  go_wp2_with fail
  refine (awake_any _).mono ?_
  rintro e w1 ⟨rfl, f1⟩
  have F := ((Fr.refl [] w).alloc _).trans f1
  clear f1
  go_wp2_with fail
  all_goals first | (exfalso; omega) | skip
  all_goals (go_ret; exact ⟨rfl, F.below (Nat.le_refl _) (by simp)⟩)

theorem keeps_any (f a o : Int) (x1 x2 : Int) (w : World) :
    Calls Try.prog 4 #[.int .i64 f, .int .i64 a, .int .i64 o, .agg #[.int .i64 x1, .int .i64 x2]] w fun e w' => e = .returned (.bool true) ∧ Below w.heap.size w w' := by
  by_cases h : f < 1 ∨ 100 < f ∨ a < 0 ∨ f ≤ a ∨ o < 0 ∨ f ≤ o
  · exact keeps_out f a o x1 x2 w h
  · obtain ⟨f', rfl⟩ := Int.eq_ofNat_of_zero_le (show 0 ≤ f by omega)
    obtain ⟨a', rfl⟩ := Int.eq_ofNat_of_zero_le (show 0 ≤ a by omega)
    obtain ⟨o', rfl⟩ := Int.eq_ofNat_of_zero_le (show 0 ≤ o by omega)
    exact keeps_in f' a' o' x1 x2 w (by omega) (by omega) (by omega) (by omega)
end Go.Proofs.Ytndjoklinccfjaa
