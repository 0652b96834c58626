/-
  Books that nobody made: every call answers nothing; no condition.
-/
import Derived.Test.YtjeddgjndpdhoaaPrS
namespace Go.Proofs.Ytjeddgjndpdhoaa
open Go.RowKit Go.Shelf Go.Maps Go.ChangeShapes
set_option linter.unusedVariables false
set_option linter.unusedSimpArgs false

/-- A book that isn't alive. -/
def Dead (w : World) (p : Value) : Prop := ∀ w', Fr [] w w' → Calls Try.prog 23 #[p] w' fun e w'' => e = .returned (.bool false) ∧ w'' = w'
theorem Dead.fr {w w' : World} {p : Value} (h : Dead w p) (f : Fr [] w w') : Dead w' p := fun W g => h W (f.trans g)
set_option maxRecDepth 100000 in
theorem dead_nil (w : World) : Dead w (.pointer none) := by
  intro w' _
  go_enter Try.func23, Try.ntmps23
  go_wp2
  go_ret
  exact ⟨rfl, rfl⟩
set_option maxRecDepth 100000 in
theorem dead_zero {w : World} {b : Nat} (h : w.cell? ⟨b, 0, none⟩ = some (.int .i64 0)) : Dead w (.pointer (some ⟨b, 0, none⟩)) := by
  intro w' f
  have c0 := f.cell1 h (by simp)
  clear h f
  go_enter Try.func23, Try.ntmps23
  go_wp2
  go_ret
  exact ⟨rfl, rfl⟩
set_option maxRecDepth 100000 in
theorem count_dead {w : World} {p : Value} (h : Dead w p) (k : Ky) : Calls Try.prog 18 #[p, .agg (kc k)] w fun e w' => e = .returned (.int .i64 0) ∧ Fr [] w w' := by
  have C := fun w' (f : Fr [] w w') => h w' f
  have RF : Fr [] w w := Fr.refl _ _
  have RA : ∀ o, Fr [] w (w.alloc o) := fun o => RF.alloc o
  clear h
  go_enter Try.func18, Try.ntmps18
  go_wp2_with (go_at_call 23; (first | refine (C _ (RA _)).mono ?_ | refine (C _ RF).mono ?_); rintro e w' ⟨rfl, hw⟩; rw [hw]; clear hw)
  all_goals go_ret
  all_goals first | exact ⟨rfl, RA _⟩ | exact ⟨rfl, RF⟩
set_option maxRecDepth 100000 in
theorem banned_dead {w : World} {p : Value} (h : Dead w p) (k : Ky) : Calls Try.prog 20 #[p, .agg (kc k)] w fun e w' => e = .returned (.bool false) ∧ Fr [] w w' := by
  have C := fun w' (f : Fr [] w w') => h w' f
  have RF : Fr [] w w := Fr.refl _ _
  have RA : ∀ o, Fr [] w (w.alloc o) := fun o => RF.alloc o
  clear h
  go_enter Try.func20, Try.ntmps20
  go_wp2_with (go_at_call 23; (first | refine (C _ (RA _)).mono ?_ | refine (C _ RF).mono ?_); rintro e w' ⟨rfl, hw⟩; rw [hw]; clear hw)
  all_goals go_ret
  all_goals first | exact ⟨rfl, RA _⟩ | exact ⟨rfl, RF⟩
set_option maxRecDepth 100000 in
theorem len_dead {w : World} {p : Value} (h : Dead w p) : Calls Try.prog 22 #[p] w fun e w' => e = .returned (.int .i64 0) ∧ Fr [] w w' := by
  have C := fun w' (f : Fr [] w w') => h w' f
  have RF : Fr [] w w := Fr.refl _ _
  have RA : ∀ o, Fr [] w (w.alloc o) := fun o => RF.alloc o
  clear h
  go_enter Try.func22, Try.ntmps22
  go_wp2_with (go_at_call 23; (first | refine (C _ (RA _)).mono ?_ | refine (C _ RF).mono ?_); rintro e w' ⟨rfl, hw⟩; rw [hw]; clear hw)
  all_goals go_ret
  all_goals first | exact ⟨rfl, RA _⟩ | exact ⟨rfl, RF⟩
set_option maxRecDepth 100000 in
theorem hit_dead {w : World} {p : Value} (h : Dead w p) (k : Ky) : Calls Try.prog 16 #[p, .agg (kc k)] w fun e w' => e = .returned (.bool false) ∧ Fr [] w w' := by
  have C := fun w' (f : Fr [] w w') => h w' f
  have RF : Fr [] w w := Fr.refl _ _
  have RA : ∀ o, Fr [] w (w.alloc o) := fun o => RF.alloc o
  clear h
  go_enter Try.func16, Try.ntmps16
  go_wp2_with (go_at_call 23; (first | refine (C _ (RA _)).mono ?_ | refine (C _ RF).mono ?_); rintro e w' ⟨rfl, hw⟩; rw [hw]; clear hw)
  all_goals go_ret
  all_goals first | exact ⟨rfl, RA _⟩ | exact ⟨rfl, RF⟩
set_option maxRecDepth 100000 in
theorem ban_dead {w : World} {p : Value} (h : Dead w p) (k : Ky) : Calls Try.prog 14 #[p, .agg (kc k)] w fun e w' => e = .returned (.tuple #[]) ∧ Fr [] w w' := by
  have C := fun w' (f : Fr [] w w') => h w' f
  have RF : Fr [] w w := Fr.refl _ _
  have RA : ∀ o, Fr [] w (w.alloc o) := fun o => RF.alloc o
  clear h
  go_enter Try.func14, Try.ntmps14
  go_wp2_with (go_at_call 23; (first | refine (C _ (RA _)).mono ?_ | refine (C _ RF).mono ?_); rintro e w' ⟨rfl, hw⟩; rw [hw]; clear hw)
  all_goals first | exact bodyPost_ret (results_none rfl _ _ _) rfl ⟨rfl, RA _⟩ | exact bodyPost_end (results_none rfl _ _ _) rfl ⟨rfl, RA _⟩
set_option maxRecDepth 100000 in
set_option maxHeartbeats 2000000 in
theorem none_walk (w : World) (k : Ky) : Calls Try.prog 7 #[.agg (kc k)] w fun e w' => e = .returned (.bool true) ∧ Fr [] w w' := by
  obtain ⟨x0, x1, x2, x3, x4, x5, x6, x7, x8, x9, hkc⟩ := kc_ten k
  have HKC : Hid (kc k = _) := hkc
  clear hkc
  have CA := awake_any (w.alloc (.cells (kc k) 28))
  have kw0 := heap_alloc_new w (.cells (kc k) 28)
  go_enter Try.func7, Try.ntmps7
  go_wp2_with fail
  refine CA.mono ?_
  rintro e w1 ⟨rfl, f1⟩
  have F1 : Hid (Fr [] w w1) := ((Fr.refl [] w).alloc _).trans f1
  have k1 : w1.heap[w.heap.size]? = some (.cells (kc k) 28 (0, 0)) := (f1.block _ (by simp) (by simp)).trans kw0
  obtain ⟨W, hW⟩ : ∃ W, W = (w1.alloc (.cells #[.int .i64 0, .map none, .map none, .int .i64 0] 54)).alloc (.cells #[.pointer none, .pointer (some ⟨w1.heap.size, 0, none⟩)] 33) := ⟨_, rfl⟩
  have FW : Hid (Fr [] w W) := by rw [hW]; exact (F1.out.alloc _).alloc _
  have kW : W.heap[w.heap.size]? = some (.cells (kc k) 28 (0, 0)) := by rw [hW]; exact ((((Fr.refl [] w1).alloc _).alloc _).block _ (Array.getElem?_eq_some_iff.1 k1).1 (by simp)).trans k1
  have z0 : W.cell? ⟨w1.heap.size, 0, none⟩ = some (.int .i64 0) := by rw [hW]; exact ((Fr.refl [] _).alloc _).cell1 (at_cells (heap_alloc_new _ _) 0 rfl) (by simp)
  have s0 : ∀ w', Fr [] W w' → w'.cell? ⟨w1.heap.size + 1, 0, none⟩ = some (.pointer none) := fun w' f => f.cell1 (at_cells (by rw [hW]; exact blk2 _ _ _) 0 rfl) (by simp)
  have s1 : ∀ w', Fr [] W w' → w'.cell? ⟨w1.heap.size + 1, 1, none⟩ = some (.pointer (some ⟨w1.heap.size, 0, none⟩)) := fun w' f => f.cell1 (at_cells (by rw [hW]; exact blk2 _ _ _) 1 rfl) (by simp)
  have d0 : Hid (Dead W (.pointer none)) := dead_nil W
  have d1 : Hid (Dead W (.pointer (some ⟨w1.heap.size, 0, none⟩))) := dead_zero z0
  have m0 : ∀ w', Fr [] W w' → w'.cell? ⟨w.heap.size, 0, none⟩ = some (.int .i64 x0) := fun w' f => f.cell1 (at_cells kW 0 (by rw [HKC.out]; rfl)) (by simp)
  have m1 : ∀ w', Fr [] W w' → w'.cell? ⟨w.heap.size, 1, none⟩ = some (.int .i64 x1) := fun w' f => f.cell1 (at_cells kW 1 (by rw [HKC.out]; rfl)) (by simp)
  have m2 : ∀ w', Fr [] W w' → w'.cell? ⟨w.heap.size, 2, none⟩ = some (.int .i64 x2) := fun w' f => f.cell1 (at_cells kW 2 (by rw [HKC.out]; rfl)) (by simp)
  have m3 : ∀ w', Fr [] W w' → w'.cell? ⟨w.heap.size, 3, none⟩ = some (.int .i64 x3) := fun w' f => f.cell1 (at_cells kW 3 (by rw [HKC.out]; rfl)) (by simp)
  have m4 : ∀ w', Fr [] W w' → w'.cell? ⟨w.heap.size, 4, none⟩ = some (.int .i64 x4) := fun w' f => f.cell1 (at_cells kW 4 (by rw [HKC.out]; rfl)) (by simp)
  have m5 : ∀ w', Fr [] W w' → w'.cell? ⟨w.heap.size, 5, none⟩ = some (.int .i64 x5) := fun w' f => f.cell1 (at_cells kW 5 (by rw [HKC.out]; rfl)) (by simp)
  have m6 : ∀ w', Fr [] W w' → w'.cell? ⟨w.heap.size, 6, none⟩ = some (.int .i64 x6) := fun w' f => f.cell1 (at_cells kW 6 (by rw [HKC.out]; rfl)) (by simp)
  have m7 : ∀ w', Fr [] W w' → w'.cell? ⟨w.heap.size, 7, none⟩ = some (.int .i64 x7) := fun w' f => f.cell1 (at_cells kW 7 (by rw [HKC.out]; rfl)) (by simp)
  have m8 : ∀ w', Fr [] W w' → w'.cell? ⟨w.heap.size, 8, none⟩ = some (.int .i64 x8) := fun w' f => f.cell1 (at_cells kW 8 (by rw [HKC.out]; rfl)) (by simp)
  have m9 : ∀ w', Fr [] W w' → w'.cell? ⟨w.heap.size, 9, none⟩ = some (.int .i64 x9) := fun w' f => f.cell1 (at_cells kW 9 (by rw [HKC.out]; rfl)) (by simp)
  have HW : Hid (W = _) := hW
  clear CA kw0 f1 k1 hW z0 F1 kW
  go_wp2_with fail
  rw [← HW.out]
  have f : Fr [] W W := Fr.refl _ _
  have q0 := s0 _ f
  refine wp_loop_rounds 3 ?_
  rw [rounds_succ]
  have n0 := m0 _ f
  have n1 := m1 _ f
  have n2 := m2 _ f
  have n3 := m3 _ f
  have n4 := m4 _ f
  have n5 := m5 _ f
  have n6 := m6 _ f
  have n7 := m7 _ f
  have n8 := m8 _ f
  have n9 := m9 _ f
  have C := ban_dead (d0.out.fr f) k
  rw [HKC.out] at C
  have HF : Hid (Fr [] W _) := f
  clear f
  go_wp2_with fail
  refine C.mono ?_
  rintro e Y ⟨rfl, g⟩
  have f := HF.out.trans g
  clear HF g C
  clear n0 n1 n2 n3 n4 n5 n6 n7 n8 n9
  have n0 := m0 _ f
  have n1 := m1 _ f
  have n2 := m2 _ f
  have n3 := m3 _ f
  have n4 := m4 _ f
  have n5 := m5 _ f
  have n6 := m6 _ f
  have n7 := m7 _ f
  have n8 := m8 _ f
  have n9 := m9 _ f
  have C := hit_dead (d0.out.fr f) k
  rw [HKC.out] at C
  have HF : Hid (Fr [] W _) := f
  clear f
  go_wp2_with fail
  refine C.mono ?_
  rintro e Y ⟨rfl, g⟩
  have f := HF.out.trans g
  clear HF g C
  clear n0 n1 n2 n3 n4 n5 n6 n7 n8 n9
  have n0 := m0 _ f
  have n1 := m1 _ f
  have n2 := m2 _ f
  have n3 := m3 _ f
  have n4 := m4 _ f
  have n5 := m5 _ f
  have n6 := m6 _ f
  have n7 := m7 _ f
  have n8 := m8 _ f
  have n9 := m9 _ f
  have C := count_dead (d0.out.fr f) k
  rw [HKC.out] at C
  have HF : Hid (Fr [] W _) := f
  clear f
  go_wp2_with fail
  refine C.mono ?_
  rintro e Y ⟨rfl, g⟩
  have f := HF.out.trans g
  clear HF g C
  clear n0 n1 n2 n3 n4 n5 n6 n7 n8 n9
  have n0 := m0 _ f
  have n1 := m1 _ f
  have n2 := m2 _ f
  have n3 := m3 _ f
  have n4 := m4 _ f
  have n5 := m5 _ f
  have n6 := m6 _ f
  have n7 := m7 _ f
  have n8 := m8 _ f
  have n9 := m9 _ f
  have C := banned_dead (d0.out.fr f) k
  rw [HKC.out] at C
  have HF : Hid (Fr [] W _) := f
  clear f
  go_wp2_with fail
  refine C.mono ?_
  rintro e Y ⟨rfl, g⟩
  have f := HF.out.trans g
  clear HF g C
  clear n0 n1 n2 n3 n4 n5 n6 n7 n8 n9
  have C := len_dead (d0.out.fr f)
  have HF : Hid (Fr [] W _) := f
  clear f
  go_wp2_with fail
  refine C.mono ?_
  rintro e Y ⟨rfl, g⟩
  have f := HF.out.trans g
  clear HF g C
  have q1 := s1 _ f
  have HF : Hid (Fr [] W _) := f
  clear f q0
  go_wp2_with fail
  rw [rounds_succ]
  have f := HF.out
  clear HF
  have n0 := m0 _ f
  have n1 := m1 _ f
  have n2 := m2 _ f
  have n3 := m3 _ f
  have n4 := m4 _ f
  have n5 := m5 _ f
  have n6 := m6 _ f
  have n7 := m7 _ f
  have n8 := m8 _ f
  have n9 := m9 _ f
  have C := ban_dead (d1.out.fr f) k
  rw [HKC.out] at C
  have HF : Hid (Fr [] W _) := f
  clear f
  go_wp2_with fail
  refine C.mono ?_
  rintro e Y ⟨rfl, g⟩
  have f := HF.out.trans g
  clear HF g C
  clear n0 n1 n2 n3 n4 n5 n6 n7 n8 n9
  have n0 := m0 _ f
  have n1 := m1 _ f
  have n2 := m2 _ f
  have n3 := m3 _ f
  have n4 := m4 _ f
  have n5 := m5 _ f
  have n6 := m6 _ f
  have n7 := m7 _ f
  have n8 := m8 _ f
  have n9 := m9 _ f
  have C := hit_dead (d1.out.fr f) k
  rw [HKC.out] at C
  have HF : Hid (Fr [] W _) := f
  clear f
  go_wp2_with fail
  refine C.mono ?_
  rintro e Y ⟨rfl, g⟩
  have f := HF.out.trans g
  clear HF g C
  clear n0 n1 n2 n3 n4 n5 n6 n7 n8 n9
  have n0 := m0 _ f
  have n1 := m1 _ f
  have n2 := m2 _ f
  have n3 := m3 _ f
  have n4 := m4 _ f
  have n5 := m5 _ f
  have n6 := m6 _ f
  have n7 := m7 _ f
  have n8 := m8 _ f
  have n9 := m9 _ f
  have C := count_dead (d1.out.fr f) k
  rw [HKC.out] at C
  have HF : Hid (Fr [] W _) := f
  clear f
  go_wp2_with fail
  refine C.mono ?_
  rintro e Y ⟨rfl, g⟩
  have f := HF.out.trans g
  clear HF g C
  clear n0 n1 n2 n3 n4 n5 n6 n7 n8 n9
  have n0 := m0 _ f
  have n1 := m1 _ f
  have n2 := m2 _ f
  have n3 := m3 _ f
  have n4 := m4 _ f
  have n5 := m5 _ f
  have n6 := m6 _ f
  have n7 := m7 _ f
  have n8 := m8 _ f
  have n9 := m9 _ f
  have C := banned_dead (d1.out.fr f) k
  rw [HKC.out] at C
  have HF : Hid (Fr [] W _) := f
  clear f
  go_wp2_with fail
  refine C.mono ?_
  rintro e Y ⟨rfl, g⟩
  have f := HF.out.trans g
  clear HF g C
  clear n0 n1 n2 n3 n4 n5 n6 n7 n8 n9
  have C := len_dead (d1.out.fr f)
  have HF : Hid (Fr [] W _) := f
  clear f
  go_wp2_with fail
  refine C.mono ?_
  rintro e Y ⟨rfl, g⟩
  have f := HF.out.trans g
  clear HF g C
  have HF : Hid (Fr [] W _) := f
  clear f q1
  go_wp2_with fail
  rw [rounds_succ]
  go_wp2
  go_ret
  exact ⟨rfl, FW.out.trans HF.out⟩
theorem profileNone_walk (w : World) (k : Ky) (hk : kw k) : Calls Try.prog 7 #[.agg (kc k)] w fun e w' => e = .returned (.bool true) ∧ Fr [] w w' := none_walk w k
end Go.Proofs.Ytjeddgjndpdhoaa
