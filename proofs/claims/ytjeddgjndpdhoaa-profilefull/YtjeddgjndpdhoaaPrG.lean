/-
  Which of two tallies comes first: cmp.Compare, cmp.Or, byCount; no condition.
-/
import Derived.Test.YtjeddgjndpdhoaaPrF
namespace Go.Proofs.Ytjeddgjndpdhoaa
open Go.RowKit Go.Shelf Go.Maps Go.ChangeShapes
set_option linter.unusedVariables false
set_option linter.unusedSimpArgs false

set_option maxRecDepth 100000 in
theorem nan_any (x : Int) (w : World) : Calls Try.prog 31 #[.int .i64 x] w fun e w' => e = .returned (.bool false) ∧ w' = w := by
  go_enter Try.func31, Try.ntmps31
  go_wp2
  go_ret
  exact ⟨by simp, rfl⟩
def cmpI (x y : Int) : Int := if x < y then -1 else if y < x then 1 else 0
set_option maxRecDepth 100000 in
theorem cmp_any (x y : Int) (w : World) : Calls Try.prog 30 #[.int .i64 x, .int .i64 y] w fun e w' => e = .returned (.int .i64 (cmpI x y)) ∧ w' = w := by
  have C := nan_any x w
  have C' := nan_any y w
  go_enter Try.func30, Try.ntmps30
  go_wp2_with fail
  refine C.mono ?_
  rintro e w' ⟨rfl, hw⟩
  rw [hw]
  clear hw
  go_wp2_with fail
  refine C'.mono ?_
  rintro e w'' ⟨rfl, hw⟩
  rw [hw]
  clear hw
  go_wp2
  all_goals go_ret
  all_goals exact ⟨by unfold cmpI; simp_all; try omega, rfl⟩
def orI (x y : Int) : Int := if x = 0 then y else x
set_option maxRecDepth 100000 in
theorem or_any {w : World} {g : Nat} {c : Nat} (x y : Int) (h0 : w.cell? ⟨g, 0, none⟩ = some (.int .i64 x)) (h1 : w.cell? ⟨g, 1, none⟩ = some (.int .i64 y)) : Calls Try.prog 29 #[.slice (some ⟨g, 0, none⟩) 2 c] w fun e w' => e = .returned (.int .i64 (orI x y)) ∧ w' = w := by
  by_cases hx : x = 0
  · subst hx
    by_cases hy : y = 0
    · subst hy
      go_enter Try.func29, Try.ntmps29
      go_wp2_with fail
      refine wp_loop_rounds 3 ?_
      rw [rounds_succ]; go_wp2
      rw [rounds_succ]; go_wp2
      rw [rounds_succ]; go_wp2
      go_ret
      exact ⟨rfl, rfl⟩
    · have e1 : (y != 0) = true := by simp [hy]
      go_enter Try.func29, Try.ntmps29
      go_wp2_with fail
      refine wp_loop_rounds 3 ?_
      rw [rounds_succ]; go_wp2
      rw [rounds_succ]; go_wp2
      go_ret
      exact ⟨rfl, rfl⟩
  · have e1 : (x != 0) = true := by simp [hx]
    go_enter Try.func29, Try.ntmps29
    go_wp2_with fail
    refine wp_loop_rounds 3 ?_
    rw [rounds_succ]; go_wp2
    go_ret
    exact ⟨by simp [orI, hx], rfl⟩
set_option maxRecDepth 100000 in
theorem byCount_any (n s n' s' : Int) (w : World) : Calls Try.prog 28 #[tv n s, tv n' s'] w fun e w' => e = .returned (.int .i64 (orI (cmpI n n') (cmpI s s'))) ∧ Fr [] w w' := by
  have Ca := cmp_any n n'
  have Cb := cmp_any s s'
  have Co : ∀ (w' : World) (g c : Nat), w'.cell? ⟨g, 0, none⟩ = some (.int .i64 (cmpI n n')) → w'.cell? ⟨g, 1, none⟩ = some (.int .i64 (cmpI s s')) → Calls Try.prog 29 #[.slice (some ⟨g, 0, none⟩) 2 c] w' fun e w'' => e = .returned (.int .i64 (orI (cmpI n n') (cmpI s s'))) ∧ w'' = w' := fun w' g c h0 h1 => or_any _ _ h0 h1
  generalize cmpI n n' = u at *
  generalize cmpI s s' = v at *
  unfold tv
  obtain ⟨W, hW⟩ : ∃ W, W = (w.alloc (.cells #[.int .i64 n, .int .i64 s] 60)).alloc (.cells #[.int .i64 n', .int .i64 s'] 60) := ⟨_, rfl⟩
  have F : Hid (Fr [] w W) := by rw [hW]; exact ((Fr.refl [] w).alloc _).alloc _
  have B1 : W.heap[w.heap.size]? = some (.cells #[.int .i64 n, .int .i64 s] 60 (0, 0)) := by rw [hW]; exact (Below.heap_alloc _ _ _ (by simp)).trans (heap_alloc_new _ _)
  have B2 : W.heap[w.heap.size + 1]? = some (.cells #[.int .i64 n', .int .i64 s'] 60 (0, 0)) := by rw [hW]; exact blk2 _ _ _
  have a0 : ∀ w', Fr [] W w' → w'.cell? ⟨w.heap.size, 0, none⟩ = some (.int .i64 n) := fun w' f => f.cell1 (at_cells B1 0 rfl) (by simp)
  have a1 : ∀ w', Fr [] W w' → w'.cell? ⟨w.heap.size, 1, none⟩ = some (.int .i64 s) := fun w' f => f.cell1 (at_cells B1 1 rfl) (by simp)
  have b0 : ∀ w', Fr [] W w' → w'.cell? ⟨w.heap.size + 1, 0, none⟩ = some (.int .i64 n') := fun w' f => f.cell1 (at_cells B2 0 rfl) (by simp)
  have b1 : ∀ w', Fr [] W w' → w'.cell? ⟨w.heap.size + 1, 1, none⟩ = some (.int .i64 s') := fun w' f => f.cell1 (at_cells B2 1 rfl) (by simp)
  have RF : Fr [] W W := Fr.refl _ _
  have HD : ∀ w' : World, Fr [] W w' → Fr [] W w'.drew := fun w' h => h.drew
  have HAl : ∀ (w' : World) (o : Obj), Fr [] W w' → Fr [] W (w'.alloc o) := fun w' o h => h.alloc o
  have Ne0 : ∀ w' : World, (w'.alloc (.cells #[.int .i64 u, .int .i64 v] 3)).cell? ⟨w'.heap.size, 0, none⟩ = some (.int .i64 u) := fun w' => at_cells (heap_alloc_new _ _) 0 rfl
  have Ne1 : ∀ w' : World, (w'.alloc (.cells #[.int .i64 u, .int .i64 v] 3)).cell? ⟨w'.heap.size, 1, none⟩ = some (.int .i64 v) := fun w' => at_cells (heap_alloc_new _ _) 1 rfl
  have hH : Hid (W = _) := hW
  clear B1 B2 hW
  go_enter Try.func28, Try.ntmps28
  go_wp2
  rw [← hH.out]
  go_region_held3 (fun w' : World => Fr [] W w') (with_reducible (repeat' (first | assumption | apply HD | apply HAl)))
    (first
      | (go_at_call 30; with_reducible (refine (Ca _).mono ?_); rintro e w1 ⟨rfl, rfl⟩)
      | (go_at_call 30; with_reducible (refine (Cb _).mono ?_); rintro e w1 ⟨rfl, rfl⟩)
      | (go_at_call 29; with_reducible (refine (Co _ _ _ ?_ ?_).mono ?_); (· simp only [World.cell?_drew]; exact Ne0 _); (· simp only [World.cell?_drew]; exact Ne1 _); rintro e w1 ⟨rfl, rfl⟩))
  all_goals go_wp2
  all_goals go_ret
  all_goals exact ⟨rfl, F.out.trans (by repeat' (first | assumption | apply HD | apply HAl))⟩
end Go.Proofs.Ytjeddgjndpdhoaa
