/-
  Count, Banned, New of a book of the program; condition: the book lies as told.
-/
import Derived.Test.YtjeddgjndpdhoaaPrC
namespace Go.Proofs.Ytjeddgjndpdhoaa
open Go.RowKit Go.Shelf Go.Maps Go.ChangeShapes
set_option linter.unusedVariables false
set_option linter.unusedSimpArgs false

theorem kc_ten (k : Ky) : ∃ a b c d e f g h i j : Int, kc k = #[.int .i64 a, .int .i64 b, .int .i64 c, .int .i64 d, .int .i64 e, .int .i64 f, .int .i64 g, .int .i64 h, .int .i64 i, .int .i64 j] := by
  obtain ⟨a, b, c, d, e, f, g, h, i, j⟩ := k
  exact ⟨a, b, c, d, e, f, g, h, i, j, rfl⟩
/-- A key's ten cells in memory. -/
structure KB (w : World) (b o : Nat) (x0 x1 x2 x3 x4 x5 x6 x7 x8 x9 : Int) : Prop where
  c0 : w.cell? ⟨b, o, none⟩ = some (.int .i64 x0)
  c1 : w.cell? ⟨b, o + 1, none⟩ = some (.int .i64 x1)
  c2 : w.cell? ⟨b, o + 2, none⟩ = some (.int .i64 x2)
  c3 : w.cell? ⟨b, o + 3, none⟩ = some (.int .i64 x3)
  c4 : w.cell? ⟨b, o + 4, none⟩ = some (.int .i64 x4)
  c5 : w.cell? ⟨b, o + 5, none⟩ = some (.int .i64 x5)
  c6 : w.cell? ⟨b, o + 6, none⟩ = some (.int .i64 x6)
  c7 : w.cell? ⟨b, o + 7, none⟩ = some (.int .i64 x7)
  c8 : w.cell? ⟨b, o + 8, none⟩ = some (.int .i64 x8)
  c9 : w.cell? ⟨b, o + 9, none⟩ = some (.int .i64 x9)
theorem KB.new (w : World) (x0 x1 x2 x3 x4 x5 x6 x7 x8 x9 : Int) (t : TypeId) : KB (w.alloc (.cells #[.int .i64 x0, .int .i64 x1, .int .i64 x2, .int .i64 x3, .int .i64 x4, .int .i64 x5, .int .i64 x6, .int .i64 x7, .int .i64 x8, .int .i64 x9] t)) w.heap.size 0 x0 x1 x2 x3 x4 x5 x6 x7 x8 x9 := by
  have h := heap_alloc_new w (.cells #[.int .i64 x0, .int .i64 x1, .int .i64 x2, .int .i64 x3, .int .i64 x4, .int .i64 x5, .int .i64 x6, .int .i64 x7, .int .i64 x8, .int .i64 x9] t)
  exact ⟨at_cells h 0 rfl, at_cells h 1 rfl, at_cells h 2 rfl, at_cells h 3 rfl, at_cells h 4 rfl, at_cells h 5 rfl, at_cells h 6 rfl, at_cells h 7 rfl, at_cells h 8 rfl, at_cells h 9 rfl⟩
theorem BA.box {w : World} {b mb bb : Nat} {S : Bk} (h : BA w b mb bb S) (o : Obj) : BA (w.alloc o) b mb bb S := h.fr ((Fr.refl [] w).alloc o) (by simp) (by simp) (by simp)
theorem BA.drew {w : World} {b mb bb : Nat} {S : Bk} (h : BA w b mb bb S) : BA w.drew b mb bb S := h.fr (Fr.refl [] w).drew (by simp) (by simp) (by simp)
theorem fld60 (x y : Int) (w : World) : (Instr.field 60 (.agg #[.int .i64 x, .int .i64 y]) 0).run Try.prog w = .ok (.int .i64 x) w := by kernel_rfl
set_option maxRecDepth 100000 in
theorem count_any {w : World} {b mb bb : Nat} {S : Bk} (h : BA w b mb bb S) {k : Ky} (hk : kw k) : Calls Try.prog 18 #[.pointer (some ⟨b, 0, none⟩), .agg (kc k)] w fun e w' => e = .returned (.int .i64 (cntL S.L k)) ∧ Fr [] w w' := by
  obtain ⟨x0, x1, x2, x3, x4, x5, x6, x7, x8, x9, hkc⟩ := kc_ten k
  obtain ⟨W, hW⟩ : ∃ W, W = w.alloc (.cells (kc k) 28) := ⟨_, rfl⟩
  have F : Hid (Fr [] w W) := by rw [hW]; exact (Fr.refl [] w).alloc _
  have hb : BA W b mb bb S := by rw [hW]; exact h.box _
  have C := alive_any hb
  have cc : ∀ w', Fr [] W w' → w'.cell? ⟨b, 1, none⟩ = some (.map (some mb)) := fun w' f => f.cell1 (at_cells hb.blk 1 rfl) (by simp)
  have lo : ∀ w', Fr [] W w' → (Instr.lookup 51 (.map (some mb)) (.agg (kc k)) false).run Try.prog w' = .ok (tv (cntL S.L k) (sncL S.L k)) w' := fun w' f => (hb.cm.fr f (by simp)).look hk
  have fl := fun w' (_ : Fr [] W w') => fld60 (cntL S.L k) (sncL S.L k) w'
  rw [hkc] at hW lo ⊢
  have KK : KB W w.heap.size 0 x0 x1 x2 x3 x4 x5 x6 x7 x8 x9 := by rw [hW]; exact KB.new _ _ _ _ _ _ _ _ _ _ _ _
  have m0 : ∀ w', Fr [] W w' → w'.cell? ⟨w.heap.size, 0, none⟩ = some (.int .i64 x0) := fun w' f => f.cell1 KK.c0 (by simp)
  have m1 : ∀ w', Fr [] W w' → w'.cell? ⟨w.heap.size, 1, none⟩ = some (.int .i64 x1) := fun w' f => f.cell1 KK.c1 (by simp)
  have m2 : ∀ w', Fr [] W w' → w'.cell? ⟨w.heap.size, 2, none⟩ = some (.int .i64 x2) := fun w' f => f.cell1 KK.c2 (by simp)
  have m3 : ∀ w', Fr [] W w' → w'.cell? ⟨w.heap.size, 3, none⟩ = some (.int .i64 x3) := fun w' f => f.cell1 KK.c3 (by simp)
  have m4 : ∀ w', Fr [] W w' → w'.cell? ⟨w.heap.size, 4, none⟩ = some (.int .i64 x4) := fun w' f => f.cell1 KK.c4 (by simp)
  have m5 : ∀ w', Fr [] W w' → w'.cell? ⟨w.heap.size, 5, none⟩ = some (.int .i64 x5) := fun w' f => f.cell1 KK.c5 (by simp)
  have m6 : ∀ w', Fr [] W w' → w'.cell? ⟨w.heap.size, 6, none⟩ = some (.int .i64 x6) := fun w' f => f.cell1 KK.c6 (by simp)
  have m7 : ∀ w', Fr [] W w' → w'.cell? ⟨w.heap.size, 7, none⟩ = some (.int .i64 x7) := fun w' f => f.cell1 KK.c7 (by simp)
  have m8 : ∀ w', Fr [] W w' → w'.cell? ⟨w.heap.size, 8, none⟩ = some (.int .i64 x8) := fun w' f => f.cell1 KK.c8 (by simp)
  have m9 : ∀ w', Fr [] W w' → w'.cell? ⟨w.heap.size, 9, none⟩ = some (.int .i64 x9) := fun w' f => f.cell1 KK.c9 (by simp)
  have RF : Fr [] W W := Fr.refl _ _
  have HD : ∀ w' : World, Fr [] W w' → Fr [] W w'.drew := fun w' h => h.drew
  have HAl : ∀ (w' : World) (o : Obj), Fr [] W w' → Fr [] W (w'.alloc o) := fun w' o h => h.alloc o
  have hH : Hid (W = _) := hW
  clear hb h hW hkc KK
  unfold tv at lo
  go_enter Try.func18, Try.ntmps18
  go_wp2_with fail
  rw [← hH.out]
  refine C.mono ?_
  rintro e w' ⟨rfl, hw⟩
  rw [hw]
  clear hw
  go_wp2
  go_region_held3 (fun w' : World => Fr [] W w') (with_reducible (repeat' (first | assumption | apply HD | apply HAl))) (fail)
  all_goals go_wp2
  all_goals go_ret
  all_goals exact ⟨rfl, F.out.drew⟩
set_option maxRecDepth 100000 in
theorem banned_any {w : World} {b mb bb : Nat} {S : Bk} (h : BA w b mb bb S) {k : Ky} (hk : kw k) : Calls Try.prog 20 #[.pointer (some ⟨b, 0, none⟩), .agg (kc k)] w fun e w' => e = .returned (.bool (decide (k ∈ S.O))) ∧ Fr [] w w' := by
  obtain ⟨x0, x1, x2, x3, x4, x5, x6, x7, x8, x9, hkc⟩ := kc_ten k
  obtain ⟨W, hW⟩ : ∃ W, W = w.alloc (.cells (kc k) 28) := ⟨_, rfl⟩
  have F : Hid (Fr [] w W) := by rw [hW]; exact (Fr.refl [] w).alloc _
  have hb : BA W b mb bb S := by rw [hW]; exact h.box _
  have C := alive_any hb
  have cc : ∀ w', Fr [] W w' → w'.cell? ⟨b, 2, none⟩ = some (.map (some bb)) := fun w' f => f.cell1 (at_cells hb.blk 2 rfl) (by simp)
  have lo : ∀ w', Fr [] W w' → (Instr.lookup 52 (.map (some bb)) (.agg (kc k)) true).run Try.prog w' = .ok (.tuple #[.agg #[], .bool (decide (k ∈ S.O))]) w' := fun w' f => (hb.bm.fr f (by simp)).lookOk hk
  rw [hkc] at hW lo ⊢
  have KK : KB W w.heap.size 0 x0 x1 x2 x3 x4 x5 x6 x7 x8 x9 := by rw [hW]; exact KB.new _ _ _ _ _ _ _ _ _ _ _ _
  have m0 : ∀ w', Fr [] W w' → w'.cell? ⟨w.heap.size, 0, none⟩ = some (.int .i64 x0) := fun w' f => f.cell1 KK.c0 (by simp)
  have m1 : ∀ w', Fr [] W w' → w'.cell? ⟨w.heap.size, 1, none⟩ = some (.int .i64 x1) := fun w' f => f.cell1 KK.c1 (by simp)
  have m2 : ∀ w', Fr [] W w' → w'.cell? ⟨w.heap.size, 2, none⟩ = some (.int .i64 x2) := fun w' f => f.cell1 KK.c2 (by simp)
  have m3 : ∀ w', Fr [] W w' → w'.cell? ⟨w.heap.size, 3, none⟩ = some (.int .i64 x3) := fun w' f => f.cell1 KK.c3 (by simp)
  have m4 : ∀ w', Fr [] W w' → w'.cell? ⟨w.heap.size, 4, none⟩ = some (.int .i64 x4) := fun w' f => f.cell1 KK.c4 (by simp)
  have m5 : ∀ w', Fr [] W w' → w'.cell? ⟨w.heap.size, 5, none⟩ = some (.int .i64 x5) := fun w' f => f.cell1 KK.c5 (by simp)
  have m6 : ∀ w', Fr [] W w' → w'.cell? ⟨w.heap.size, 6, none⟩ = some (.int .i64 x6) := fun w' f => f.cell1 KK.c6 (by simp)
  have m7 : ∀ w', Fr [] W w' → w'.cell? ⟨w.heap.size, 7, none⟩ = some (.int .i64 x7) := fun w' f => f.cell1 KK.c7 (by simp)
  have m8 : ∀ w', Fr [] W w' → w'.cell? ⟨w.heap.size, 8, none⟩ = some (.int .i64 x8) := fun w' f => f.cell1 KK.c8 (by simp)
  have m9 : ∀ w', Fr [] W w' → w'.cell? ⟨w.heap.size, 9, none⟩ = some (.int .i64 x9) := fun w' f => f.cell1 KK.c9 (by simp)
  have RF : Fr [] W W := Fr.refl _ _
  have HD : ∀ w' : World, Fr [] W w' → Fr [] W w'.drew := fun w' h => h.drew
  have HAl : ∀ (w' : World) (o : Obj), Fr [] W w' → Fr [] W (w'.alloc o) := fun w' o h => h.alloc o
  have hH : Hid (W = _) := hW
  clear hb h hW hkc KK
  generalize decide (k ∈ S.O) = bn at lo
  go_enter Try.func20, Try.ntmps20
  go_wp2_with fail
  rw [← hH.out]
  refine C.mono ?_
  rintro e w' ⟨rfl, hw⟩
  rw [hw]
  clear hw
  go_wp2
  go_region_held3 (fun w' : World => Fr [] W w') (with_reducible (repeat' (first | assumption | apply HD | apply HAl))) (fail)
  all_goals go_wp2
  all_goals go_ret
  all_goals exact ⟨rfl, F.out.trans (HD _ (HAl _ _ RF))⟩
theorem empty_cm (w : World) : CM (w.alloc (.map #[] 0)) w.heap.size [] := ⟨.map [], World.ownsMap_made w _ _ _, rfl, fun k hk => ⟨rfl, rfl⟩, fun l hl => by simp [Maps.has] at hl⟩
theorem empty_bm (w : World) : BM (w.alloc (.map #[] 0)) w.heap.size [] := ⟨.map [], World.ownsMap_made w _ _ _, rfl, fun k hk => by simp [Maps.has]⟩
theorem new_laid (w : World) (t : Int) (ht : 1 ≤ t) : BA (((w.alloc (.map #[] 0)).alloc (.map #[] 0)).alloc (.cells #[.int .i64 t, .map (some w.heap.size), .map (some (w.heap.size + 1)), .int .i64 0] 54)) (w.heap.size + 2) w.heap.size (w.heap.size + 1) ⟨t, [], 0, []⟩ := by
  have e := heap_alloc_new ((w.alloc (.map #[] 0)).alloc (.map #[] 0)) (.cells #[.int .i64 t, .map (some w.heap.size), .map (some (w.heap.size + 1)), .int .i64 0] 54)
  simp only [World.size_alloc] at e
  refine ⟨e, ((empty_cm w).fr (((Fr.refl [] _).alloc _).alloc _) (by simp)), ?_, by omega, ht⟩
  have := (empty_bm (w.alloc (.map #[] 0))).fr ((Fr.refl [] _).alloc (.cells #[.int .i64 t, .map (some w.heap.size), .map (some (w.heap.size + 1)), .int .i64 0] 54)) (by simp)
  simpa only [World.size_alloc] using this
set_option maxRecDepth 100000 in
theorem new_any (w : World) (t : Int) : Calls Try.prog 12 #[.int .i64 t] w fun e w' => e = .returned (.pointer (some ⟨w.heap.size + 2, 0, none⟩)) ∧ Fr [] w w' ∧ BA w' (w.heap.size + 2) w.heap.size (w.heap.size + 1) ⟨max t 1, [], 0, []⟩ ∧ w'.heap.size = w.heap.size + 3 := by
  have hmm := @run_makeMap Try.prog
  by_cases h : 1 ≤ t
  · have hm : max t 1 = t := by omega
    rw [hm]
    go_enter Try.func12, Try.ntmps12
    go_wp2
    go_ret
    refine ⟨by simp, ((((Fr.refl [] w).alloc _).alloc _).alloc _), by simpa using new_laid w t h, by simp⟩
  · have hm : max t 1 = 1 := by omega
    rw [hm]
    go_enter Try.func12, Try.ntmps12
    go_wp2
    go_ret
    refine ⟨by simp, ((((Fr.refl [] w).alloc _).alloc _).alloc _), by simpa using new_laid w 1 (by omega), by simp⟩
end Go.Proofs.Ytjeddgjndpdhoaa
