/-
  Elem, SetElem and Len on a heap that New made, told to the caller, for every value and place; no condition.
-/
import Derived.Test.YtkjkpkmmojchiaaGreatDoorHeapJ
namespace Go.Proofs.YtkjkpkmmojchiaaGreatDoor
open Go.RowKit

theorem blk3 (w : World) (o o' o'' : Obj) : (((w.alloc o).alloc o').alloc o'').heap[w.heap.size + 1 + 1]? = some o'' := by
  have h := blk2 (w.alloc o) o' o''
  rw [show (w.alloc o).heap.size = w.heap.size + 1 from by simp] at h
  exact h

set_option maxHeartbeats 400000 in
theorem Elem_no {w : World} {B b : Nat} {lim used : Int} {sv : Value} {rk rn : Int} {T : List Thing} (R : Rep w B b lim used sv rk rn T) (k n ak an : Int) (h : elemTrap (T.map Thing.abs) k n ak an ≠ 0) :
    Calls Tryz.prog 140 #[.pointer (some ⟨b, 0, none⟩), .agg #[.int .i64 k, .int .i64 n], .agg #[.int .i64 ak, .int .i64 an]] w fun e w' => e = .returned (.tuple #[.agg #[.int .i64 0, .int .i64 0], .int .i64 (elemTrap (T.map Thing.abs) k n ak an)]) ∧ Fr [] w w' := by
  have hA : ∀ o o' o'', Rep (((w.alloc o).alloc o').alloc o'') B b lim used sv rk rn T := fun o o' o'' => R.frame (S := []) ((((Fr.refl _ _).alloc o).alloc o').alloc o'') (by simp)
  have hF := fun o o' o'' => elem_no (hA o o' o'') k n ak an h
  generalize elemTrap (T.map Thing.abs) k n ak an = X at *
  have hX : (X != 0) = true := by rw [bne_iff_ne]; exact h
  go_enter Tryz.func140, Tryz.ntmps140
  go_wp2_with fail
  refine (hF _ _ _).mono ?_
  rintro e w' ⟨rfl, hfr⟩
  have hL : w'.heap[w.heap.size + 1 + 1]? = some (.cells #[.int .i64 0, .int .i64 0] 33) := by
    rw [hfr.block _ (by simp) (by simp)]
    exact blk3 w _ _ _
  have hl0 : w'.cell? ⟨w.heap.size + 1 + 1, 0, none⟩ = some (.int .i64 0) := by simp [World.cell?, hL]
  have hl1 : w'.cell? ⟨w.heap.size + 1 + 1, 1, none⟩ = some (.int .i64 0) := by simp [World.cell?, hL]
  have hlf : ∀ i, w'.frozen? ⟨w.heap.size + 1 + 1, i, none⟩ = false := by intro i; simp [World.frozen?, hL]
  clear hF hA
  go_wp2
  refine bodyPost_ret (v := .tuple #[.agg #[.int .i64 0, .int .i64 0], .int .i64 X]) (by simp [results, Tryz.results140, go_sem, hl0, hl1]) rfl ⟨rfl, ?_⟩
  exact Fr.setCell (Fr.setCell (((((Fr.refl _ _).alloc _).alloc _).alloc _).trans hfr) (.inr (by simp; omega)) _) (.inr (by simp; omega)) _

set_option maxHeartbeats 400000 in
theorem Elem_ok {w : World} {B b : Nat} {lim used : Int} {sv : Value} {rk rn : Int} {T : List Thing} (R : Rep w B b lim used sv rk rn T) (i : Nat) (t : Thing) (ht : T[i]? = some t) (hs : t.sort < 0) (a : Nat) (x : Int × Int) (ha : t.cells[a]? = some x) :
    Calls Tryz.prog 140 #[.pointer (some ⟨b, 0, none⟩), .agg #[.int .i64 2, .int .i64 (i : Int)], .agg #[.int .i64 0, .int .i64 (a : Int)]] w fun e w' => e = .returned (.tuple #[.agg #[.int .i64 x.1, .int .i64 x.2], .int .i64 0]) ∧ Fr [] w w' := by
  have hA : ∀ o o' o'', Rep (((w.alloc o).alloc o').alloc o'') B b lim used sv rk rn T := fun o o' o'' => R.frame (S := []) ((((Fr.refl _ _).alloc o).alloc o').alloc o'') (by simp)
  have hF := fun o o' o'' => elem_ok (hA o o' o'') i t ht hs a (List.getElem?_eq_some_iff.1 ha).1
  have hTA := R.th t (List.mem_of_getElem? ht)
  go_enter Tryz.func140, Tryz.ntmps140
  go_wp2_with fail
  refine (hF _ _ _).mono ?_
  rintro e w' ⟨rfl, hfr⟩
  have hL : w'.heap[w.heap.size + 1 + 1]? = some (.cells #[.int .i64 0, .int .i64 0] 33) := by
    rw [hfr.block _ (by simp) (by simp)]
    exact blk3 w _ _ _
  have hl0 : w'.cell? ⟨w.heap.size + 1 + 1, 0, none⟩ = some (.int .i64 0) := by simp [World.cell?, hL]
  have hl1 : w'.cell? ⟨w.heap.size + 1 + 1, 1, none⟩ = some (.int .i64 0) := by simp [World.cell?, hL]
  have hlf : ∀ i, w'.frozen? ⟨w.heap.size + 1 + 1, i, none⟩ = false := by intro i; simp [World.frozen?, hL]
  have hx := (hTA.later (((((Fr.refl _ _).alloc _).alloc _).alloc _).trans hfr)).cells ha
  have hx1 := hx.1
  have hx2 := hx.2
  clear hF hA hx
  go_wp2
  refine bodyPost_ret (v := .tuple #[.agg #[.int .i64 x.1, .int .i64 x.2], .int .i64 0]) (by simp [results, Tryz.results140, go_sem, hl0, hl1]) rfl ⟨rfl, ?_⟩
  exact Fr.setCell (Fr.setCell (((((Fr.refl _ _).alloc _).alloc _).alloc _).trans hfr) (.inr (by simp; omega)) _) (.inr (by simp; omega)) _

set_option maxHeartbeats 400000 in
theorem SetElem_no {w : World} {B b : Nat} {lim used : Int} {sv : Value} {rk rn : Int} {T : List Thing} (R : Rep w B b lim used sv rk rn T) (k n ak an x1 x2 : Int) (h : elemTrap (T.map Thing.abs) k n ak an ≠ 0) :
    Calls Tryz.prog 141 #[.pointer (some ⟨b, 0, none⟩), .agg #[.int .i64 k, .int .i64 n], .agg #[.int .i64 ak, .int .i64 an], .agg #[.int .i64 x1, .int .i64 x2]] w fun e w' => e = .returned (.int .i64 (elemTrap (T.map Thing.abs) k n ak an)) ∧ Fr [] w w' := by
  have hA : ∀ o o' o'', Rep (((w.alloc o).alloc o').alloc o'') B b lim used sv rk rn T := fun o o' o'' => R.frame (S := []) ((((Fr.refl _ _).alloc o).alloc o').alloc o'') (by simp)
  have hF := fun o o' o'' => elem_no (hA o o' o'') k n ak an h
  generalize elemTrap (T.map Thing.abs) k n ak an = X at *
  have hX : (X == 0) = false := by simpa using h
  go_enter Tryz.func141, Tryz.ntmps141
  go_wp2_with fail
  refine (hF _ _ _).mono ?_
  rintro e w' ⟨rfl, hfr⟩
  clear hF hA
  go_wp2
  go_ret
  exact ⟨rfl, ((((Fr.refl _ _).alloc _).alloc _).alloc _).trans hfr⟩

set_option maxHeartbeats 400000 in
theorem SetElem_ok {w : World} {B b : Nat} {lim used : Int} {sv : Value} {rk rn : Int} {T : List Thing} (R : Rep w B b lim used sv rk rn T) (i : Nat) (t : Thing) (ht : T[i]? = some t) (hs : t.sort < 0) (a : Nat) (ha : a < t.cells.length) (x1 x2 : Int) :
    Calls Tryz.prog 141 #[.pointer (some ⟨b, 0, none⟩), .agg #[.int .i64 2, .int .i64 (i : Int)], .agg #[.int .i64 0, .int .i64 (a : Int)], .agg #[.int .i64 x1, .int .i64 x2]] w fun e w' => e = .returned (.int .i64 0) ∧
      Rep w' B b lim used sv rk rn (T.set i (t.put a (x1, x2))) ∧ Fr [t.rb] w w' := by
  have hA : ∀ o o' o'', Rep (((w.alloc o).alloc o').alloc o'') B b lim used sv rk rn T := fun o o' o'' => R.frame (S := []) ((((Fr.refl _ _).alloc o).alloc o').alloc o'') (by simp)
  have hF := fun o o' o'' => elem_ok (hA o o' o'') i t ht hs a ha
  have hTA := R.th t (List.mem_of_getElem? ht)
  go_enter Tryz.func141, Tryz.ntmps141
  go_wp2_with fail
  refine (hF _ _ _).mono ?_
  rintro e w' ⟨rfl, hfr⟩
  have hL : w'.heap[w.heap.size + 1 + 1]? = some (.cells #[.int .i64 x1, .int .i64 x2] 33) := by
    rw [hfr.block _ (by simp) (by simp)]
    exact blk3 w _ _ _
  have hl0 : w'.cell? ⟨w.heap.size + 1 + 1, 0, none⟩ = some (.int .i64 x1) := by simp [World.cell?, hL]
  have hl1 : w'.cell? ⟨w.heap.size + 1 + 1, 1, none⟩ = some (.int .i64 x2) := by simp [World.cell?, hL]
  have hTw := hTA.later (((((Fr.refl _ _).alloc _).alloc _).alloc _).trans hfr)
  have hx := hTw.cells (List.getElem?_eq_getElem ha)
  have hx1 := hx.1
  have hx2 := hx.2
  have hfz := hTw.fz
  have R' := (hA _ _ _).frame hfr (by simp)
  clear hF hx hTw
  go_wp2
  go_ret
  refine ⟨rfl, R'.put ht a (x1, x2), ?_⟩
  exact Fr.setCell (Fr.setCell (((((Fr.refl _ _).alloc _).alloc _).alloc _).trans (hfr.sub (by simp))) (.inl (by simp)) _) (.inl (by simp)) _

set_option maxHeartbeats 400000 in
theorem Len_no {w : World} {B b : Nat} {lim used : Int} {sv : Value} {rk rn : Int} {T : List Thing} (R : Rep w B b lim used sv rk rn T) (k n : Int) (h : arrTrap (T.map Thing.abs) k n ≠ 0) :
    Calls Tryz.prog 142 #[.pointer (some ⟨b, 0, none⟩), .agg #[.int .i64 k, .int .i64 n]] w fun e w' => e = .returned (.tuple #[.agg #[.int .i64 0, .int .i64 0], .int .i64 (arrTrap (T.map Thing.abs) k n)]) ∧ Fr [] w w' := by
  have hA : ∀ o o', Rep ((w.alloc o).alloc o') B b lim used sv rk rn T := fun o o' => R.frame (S := []) (((Fr.refl _ _).alloc o).alloc o') (by simp)
  have hF := fun o o' => elems_no (hA o o') k n h
  generalize arrTrap (T.map Thing.abs) k n = X at *
  go_enter Tryz.func142, Tryz.ntmps142
  go_wp2_with fail
  refine (hF _ _).mono ?_
  rintro e w' ⟨rfl, hfr⟩
  have hL : w'.heap[w.heap.size + 1]? = some (.cells #[.int .i64 0, .int .i64 0] 33) := by
    rw [hfr.block _ (by simp) (by simp)]
    exact blk2 w _ _
  have hl0 : w'.cell? ⟨w.heap.size + 1, 0, none⟩ = some (.int .i64 0) := by simp [World.cell?, hL]
  have hl1 : w'.cell? ⟨w.heap.size + 1, 1, none⟩ = some (.int .i64 0) := by simp [World.cell?, hL]
  have hlf : ∀ i, w'.frozen? ⟨w.heap.size + 1, i, none⟩ = false := by intro i; simp [World.frozen?, hL]
  clear hF hA
  go_wp2
  refine bodyPost_ret (v := .tuple #[.agg #[.int .i64 0, .int .i64 0], .int .i64 X]) (by simp [results, Tryz.results142, go_sem, hl0, hl1]) rfl ⟨rfl, ?_⟩
  exact Fr.setCell (Fr.setCell ((((Fr.refl _ _).alloc _).alloc _).trans hfr) (.inr (by simp)) _) (.inr (by simp)) _

set_option maxHeartbeats 400000 in
theorem Len_ok {w : World} {B b : Nat} {lim used : Int} {sv : Value} {rk rn : Int} {T : List Thing} (R : Rep w B b lim used sv rk rn T) (i : Nat) (t : Thing) (ht : T[i]? = some t) (hs : t.sort < 0) :
    Calls Tryz.prog 142 #[.pointer (some ⟨b, 0, none⟩), .agg #[.int .i64 2, .int .i64 (i : Int)]] w fun e w' => e = .returned (.tuple #[.agg #[.int .i64 0, .int .i64 (t.cells.length : Int)], .int .i64 0]) ∧ Fr [] w w' := by
  have hA : ∀ o o', Rep ((w.alloc o).alloc o') B b lim used sv rk rn T := fun o o' => R.frame (S := []) (((Fr.refl _ _).alloc o).alloc o') (by simp)
  go_enter Tryz.func142, Tryz.ntmps142
  go_wp2_with fail
  refine (elems_ok (hA _ _) i t ht hs).mono ?_
  rintro e w' ⟨rfl, hfr⟩
  have hL : w'.heap[w.heap.size + 1]? = some (.cells #[.int .i64 0, .int .i64 0] 33) := by
    rw [hfr.block _ (by simp) (by simp)]
    exact blk2 w _ _
  have hl0 : w'.cell? ⟨w.heap.size + 1, 0, none⟩ = some (.int .i64 0) := by simp [World.cell?, hL]
  have hl1 : w'.cell? ⟨w.heap.size + 1, 1, none⟩ = some (.int .i64 0) := by simp [World.cell?, hL]
  have hlf : ∀ i, w'.frozen? ⟨w.heap.size + 1, i, none⟩ = false := by intro i; simp [World.frozen?, hL]
  clear hA
  go_wp2
  refine bodyPost_ret (v := .tuple #[.agg #[.int .i64 0, .int .i64 (t.cells.length : Int)], .int .i64 0]) (by simp [results, Tryz.results142, go_sem, hl0, hl1]) rfl ⟨rfl, ?_⟩
  exact Fr.setCell (Fr.setCell ((((Fr.refl _ _).alloc _).alloc _).trans hfr) (.inr (by simp)) _) (.inr (by simp)) _
end Go.Proofs.YtkjkpkmmojchiaaGreatDoor
