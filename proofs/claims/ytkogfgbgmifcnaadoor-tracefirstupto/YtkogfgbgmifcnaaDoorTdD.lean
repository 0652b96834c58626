/-
  The example's trace: as it is made.
-/
import Derived.Test.YtkogfgbgmifcnaaDoorTdC
namespace Go.Proofs.YtkogfgbgmifcnaaDoor
open Go.RowKit Go.Shelf Go.Maps Go.ChangeShapes
set_option linter.unusedVariables false
set_option linter.unusedSimpArgs false
attribute [local go_sem] Oper.semAt_some store_func
theorem chain_fr (os : List Obj) : ∀ w : World, Fr [] w (os.foldl World.alloc w) := by
  induction os with
  | nil => intro w; exact Fr.refl _ _
  | cons o os ih => intro w; exact ((Fr.refl [] w).alloc o).trans (ih _)
theorem chain_at (os : List Obj) : ∀ (w : World) (j : Nat) (o : Obj), os[j]? = some o → (os.foldl World.alloc w).heap[w.heap.size + j]? = some o := by
  induction os with
  | nil => intro w j o h; simp at h
  | cons x os ih =>
    intro w j o h
    cases j with
    | zero =>
      simp at h
      subst h
      exact ((chain_fr os _).block _ (at_lt (heap_alloc_new w x)) (by simp)).trans (heap_alloc_new w x)
    | succ j =>
      have := ih (w.alloc x) j o (by simpa using h)
      rw [← this]
      simp only [List.foldl_cons]
      congr 1
      simp
      omega
/-- The example's trace, from block n on. -/
def exT (n : Nat) : Tr := { k := ⟨0, 0, 0, 0, 0, 0, 0, 0, 0, 0⟩, fn := 0, pc := 0, ia := some ⟨n + 1, 0, none⟩, ic := 1, ins := [0], oa := some ⟨n + 4, 0, none⟩, oc := 2, ops := [⟨[26], [0, 0, 0], none, 0, []⟩, ⟨[4], [1, 0, 0], some ⟨n + 3, 0, none⟩, 2, [⟨1, 0, 0, 0⟩, ⟨0, 0, 1, 0⟩]⟩], la := some ⟨n + 5, 0, none⟩, lc := 1, links := [⟨[-1, 0, 0, 0], [], none, 0, []⟩], va := none, vc := 0, virts := [], ba := some ⟨n + 7, 0, none⟩, bc := 1, back := [⟨1, 0, 0, 2⟩] }
def exOs (n : Nat) : List Obj := [.cells (exT n).arr 33, .cells #[.int .i64 0] 3, .cells #[.int .i64 1, .int .i64 0, .int .i64 0, .int .i64 0] 51, .cells (flatS [⟨1, 0, 0, 0⟩, ⟨0, 0, 1, 0⟩]).toArray 51, .cells (flatE (exT n).ops).toArray 48, .cells (flatE (exT n).links).toArray 57, .cells #[.int .i64 1, .int .i64 0, .int .i64 0, .int .i64 2] 51, .cells (flatS [⟨1, 0, 0, 2⟩]).toArray 51]
def exW (w : World) : World := (exOs w.heap.size).foldl World.alloc w
theorem ex_world (w : World) : exW w = ((((((((w.alloc (.cells #[.int .i64 0, .int .i64 0, .int .i64 0, .int .i64 0, .int .i64 0, .int .i64 0, .int .i64 0, .int .i64 0, .int .i64 0, .int .i64 0, .int .i64 0, .int .i64 0, .slice (some ⟨w.heap.size + 1, 0, none⟩) 1 1, .slice (some ⟨w.heap.size + 1 + 1 + 1 + 1, 0, none⟩) 2 2, .slice (some ⟨w.heap.size + 1 + 1 + 1 + 1 + 1, 0, none⟩) 1 1, .slice none 0 0, .slice (some ⟨w.heap.size + 1 + 1 + 1 + 1 + 1 + 1 + 1, 0, none⟩) 1 1] 33)).alloc (.cells #[.int .i64 0] 3)).alloc (.cells #[.int .i64 1, .int .i64 0, .int .i64 0, .int .i64 0] 51)).alloc (.cells #[.int .i64 1, .int .i64 0, .int .i64 0, .int .i64 0, .int .i64 0, .int .i64 0, .int .i64 1, .int .i64 0] 51)).alloc (.cells #[.int .i64 26, .slice none 0 0, .int .i64 0, .int .i64 0, .int .i64 0, .int .i64 4, .slice (some ⟨w.heap.size + 1 + 1 + 1, 0, none⟩) 2 2, .int .i64 1, .int .i64 0, .int .i64 0] 48)).alloc (.cells #[.int .i64 (-1), .int .i64 0, .int .i64 0, .int .i64 0, .slice none 0 0] 57)).alloc (.cells #[.int .i64 1, .int .i64 0, .int .i64 0, .int .i64 2] 51)).alloc (.cells #[.int .i64 1, .int .i64 0, .int .i64 0, .int .i64 2] 51)) := rfl
set_option maxRecDepth 100000 in
set_option maxHeartbeats 16000000 in
theorem loop24 (w : World) : Calls Tryd.prog 24 #[] w fun e w' => e = .returned (.agg (exT w.heap.size).arr) ∧ w' = exW w := by
  have cv := fun (W : World) (z : Int) => v51 W z
  have hb : (exW w).heap[w.heap.size]? = some (.cells (exT w.heap.size).arr 33 (0, 0)) := chain_at _ w 0 _ rfl
  have HW : Hid (exW w = ((((((((w.alloc (.cells #[.int .i64 0, .int .i64 0, .int .i64 0, .int .i64 0, .int .i64 0, .int .i64 0, .int .i64 0, .int .i64 0, .int .i64 0, .int .i64 0, .int .i64 0, .int .i64 0, .slice (some ⟨w.heap.size + 1, 0, none⟩) 1 1, .slice (some ⟨w.heap.size + 1 + 1 + 1 + 1, 0, none⟩) 2 2, .slice (some ⟨w.heap.size + 1 + 1 + 1 + 1 + 1, 0, none⟩) 1 1, .slice none 0 0, .slice (some ⟨w.heap.size + 1 + 1 + 1 + 1 + 1 + 1 + 1, 0, none⟩) 1 1] 33)).alloc (.cells #[.int .i64 0] 3)).alloc (.cells #[.int .i64 1, .int .i64 0, .int .i64 0, .int .i64 0] 51)).alloc (.cells #[.int .i64 1, .int .i64 0, .int .i64 0, .int .i64 0, .int .i64 0, .int .i64 0, .int .i64 1, .int .i64 0] 51)).alloc (.cells #[.int .i64 26, .slice none 0 0, .int .i64 0, .int .i64 0, .int .i64 0, .int .i64 4, .slice (some ⟨w.heap.size + 1 + 1 + 1, 0, none⟩) 2 2, .int .i64 1, .int .i64 0, .int .i64 0] 48)).alloc (.cells #[.int .i64 (-1), .int .i64 0, .int .i64 0, .int .i64 0, .slice none 0 0] 57)).alloc (.cells #[.int .i64 1, .int .i64 0, .int .i64 0, .int .i64 2] 51)).alloc (.cells #[.int .i64 1, .int .i64 0, .int .i64 0, .int .i64 2] 51))) := ex_world w
  have Hb : Hid _ := hb
  clear hb
  go_enter Tryd.func24, Tryd.ntmps24
  go_wp2_with (go_at_call 51; refine (cv _ _).mono ?_; rintro e W ⟨rfl, hW⟩)
  rw [← HW.out]
  have hb := Hb.out
  generalize exW w = W at *
  refine ⟨rfl, .agg (exT w.heap.size).arr, ?_, rfl, rfl⟩
  exact results_cell_row (fn := Tryd.f24) rfl _ W w.heap.size 33 (exT w.heap.size).arr (0, 0) _ rfl hb Tryd.underlying33 rfl (by rw [Tr.arr_size]; exact info33)
end Go.Proofs.YtkogfgbgmifcnaaDoor
