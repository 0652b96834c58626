/-
  Whether code is short, by the laws' own sum; conditions: the code lies as told.
-/
import Derived.Test.YtajdnakpljgkpaaDoorIrY
import Derived.Deep.Cut
namespace Go.Proofs.YtajdnakpljgkpaaDoor
open Go.RowKit
set_option linter.unusedVariables false
set_option linter.unusedSimpArgs false

set_option maxRecDepth 100000 in
set_option maxHeartbeats 4000000 in
theorem few_any (B : Nat) (f : Fu) (w : World) (hf : FuOk B w f) (hB : B ≤ w.heap.size) :
    Calls Tryd.prog 8 #[.agg f.arr] w fun e w' => (∃ b : Bool, e = .returned (.bool b)) ∧ Fr [] w w' := by
  have F0 : Fr [] w (w.alloc (.cells f.arr 24)) := (Fr.refl _ _).alloc _
  have bx : (w.alloc (.cells f.arr 24)).heap[w.heap.size]? = some (.cells f.arr 24 (0, 0)) := heap_alloc_new w _
  obtain ⟨W1, hW1⟩ : ∃ W1, W1 = w.alloc (.cells f.arr 24) := ⟨_, rfl⟩
  have HW1 : Hid (W1 = w.alloc (.cells f.arr 24)) := hW1
  rw [← hW1] at F0 bx
  have F1 : Fr [] W1 (W1.alloc (.cells f.arr 24)) := (Fr.refl _ _).alloc _
  have C := size_some _ [f] _ _ 1 1 0 0 rfl (one_fu W1 f B (hf.fr F0 (by simp)) (Nat.le_trans hB F0.size)) (by omega)
  have HF : Hid (Fr [] w (W1.alloc (.cells f.arr 24))) := F0.trans F1
  have p0 : W1.cell? ⟨w.heap.size, 0, none⟩ = some (.string f.name) := at_cells bx 0 rfl
  have p1 : W1.cell? ⟨w.heap.size, 1, none⟩ = some (.int .i64 f.ps) := at_cells bx 1 rfl
  have p2 : W1.cell? ⟨w.heap.size, 2, none⟩ = some (.int .i64 f.rs) := at_cells bx 2 rfl
  have p3 : W1.cell? ⟨w.heap.size, 3, none⟩ = some (.slice f.ca f.code.length f.cc) := at_cells bx 3 rfl
  clear F0 F1 hf bx hW1
  unfold Fu.arr at *
  go_enter Tryd.func8, Tryd.ntmps8
  go_upto_region 1 with fail
  rw [← HW1.out]
  clear HW1
  go_wp2_with fail
  with_reducible (refine C.mono ?_)
  rintro e w' ⟨⟨z, rfl⟩, f1⟩
  go_wp2
  go_ret
  exact ⟨⟨_, rfl⟩, HF.out.trans f1⟩
end Go.Proofs.YtajdnakpljgkpaaDoor
