/-
  act at SetField and SetElem where they trap: both heaps answer alike and stay as they are; no condition.
-/
import Derived.Test.YtndjoklinccfjaaActsF
namespace Go.Proofs.Ytndjoklinccfjaa
open Go.RowKit

set_option maxRecDepth 100000 in
set_option maxHeartbeats 1000000 in
theorem act_setfield_no {w : World} {B b r : Nat} {lim used rk rn : Int} {sv sr : Value} {T : List Thing} {U : List RT} (J : JI w B b r lim used rk rn sv sr T U) (vk vn wk wn xk xn rec n : Int) (cs : Value) (h : fieldTrap (T.map Thing.abs) vk vn rec n ≠ 0) :
    Calls Try.prog 11 #[.pointer (some ⟨b, 0, none⟩), .pointer (some ⟨r, 0, none⟩), actVal 5 vk vn wk wn xk xn rec n cs] w fun e w' => e = .returned (.bool true) ∧ JI w' B b r lim used rk rn sv sr T U ∧ Below B w w' := by
  unfold actVal
  go_enter Try.func11, Try.ntmps11
  go_wp2_with fail
  have A0 : ABox (w.alloc (.cells #[.int .i64 5, .int .i64 vk, .int .i64 vn, .int .i64 wk, .int .i64 wn, .int .i64 xk, .int .i64 xn, .int .i64 rec, .int .i64 n, cs] 33)) w.heap.size 5 vk vn wk wn xk xn rec n cs := heap_alloc_new w _
  have f0 : Fr [] w (w.alloc (.cells #[.int .i64 5, .int .i64 vk, .int .i64 vn, .int .i64 wk, .int .i64 wn, .int .i64 xk, .int .i64 xn, .int .i64 rec, .int .i64 n, cs] 33)) := (Fr.refl _ _).alloc _
  have hBw : B ≤ w.heap.size := by have := J.R.base; have := J.R.hb.lt; omega
  generalize w.alloc (.cells #[.int .i64 5, .int .i64 vk, .int .i64 vn, .int .i64 wk, .int .i64 wn, .int .i64 xk, .int .i64 xn, .int .i64 rec, .int .i64 n, cs] 33) = w0 at *
  generalize w.heap.size = k0 at *
  have J0 := J.frame f0 (by simp)
  have c1 : ∀ w', Fr [] w0 w' → w'.cell? ⟨k0, 1, none⟩ = some (.int .i64 vk) := fun w' f => (A0.fr f (by simp)).cells.2.1
  have c2 : ∀ w', Fr [] w0 w' → w'.cell? ⟨k0, 2, none⟩ = some (.int .i64 vn) := fun w' f => (A0.fr f (by simp)).cells.2.2.1
  have c3 : ∀ w', Fr [] w0 w' → w'.cell? ⟨k0, 3, none⟩ = some (.int .i64 wk) := fun w' f => (A0.fr f (by simp)).cells.2.2.2.1
  have c4 : ∀ w', Fr [] w0 w' → w'.cell? ⟨k0, 4, none⟩ = some (.int .i64 wn) := fun w' f => (A0.fr f (by simp)).cells.2.2.2.2.1
  have c5 : ∀ w', Fr [] w0 w' → w'.cell? ⟨k0, 5, none⟩ = some (.int .i64 xk) := fun w' f => (A0.fr f (by simp)).cells.2.2.2.2.2.1
  have c6 : ∀ w', Fr [] w0 w' → w'.cell? ⟨k0, 6, none⟩ = some (.int .i64 xn) := fun w' f => (A0.fr f (by simp)).cells.2.2.2.2.2.2.1
  have c7 : ∀ w', Fr [] w0 w' → w'.cell? ⟨k0, 7, none⟩ = some (.int .i64 rec) := fun w' f => (A0.fr f (by simp)).cells.2.2.2.2.2.2.2.1
  have c8 : ∀ w', Fr [] w0 w' → w'.cell? ⟨k0, 8, none⟩ = some (.int .i64 n) := fun w' f => (A0.fr f (by simp)).cells.2.2.2.2.2.2.2.2.1
  have hU : fieldTrap (U.map RT.abs) vk vn rec n ≠ 0 := by rw [← J.same]; exact h
  have hE : Hid (fieldTrap (U.map RT.abs) vk vn rec n = fieldTrap (T.map Thing.abs) vk vn rec n) := by unfold Hid; rw [J.same]
  have C1 := fun w' (f : Fr [] w0 w') => SetField_no (J0.frame f (by simp)).R vk vn rec n xk xn h
  have C2 := fun w' (f : Fr [] w0 w') => rSetField_no (J0.frame f (by simp)).Q vk vn rec n xk xn hU
  rw [hE.out] at C2
  generalize fieldTrap (T.map Thing.abs) vk vn rec n = X at *
  go_region_held3 (fun w' => Fr [] w0 w')
    (with_reducible (first | assumption | exact Fr.drew (Fr.refl _ _)))
    (first
      | (go_at_call 19; refine (C1 _ (by assumption)).mono ?_; rintro e w1 ⟨rfl, f1⟩; have F1 := Fr.trans (by assumption) f1)
      | (go_at_call 31; refine (C2 _ (by assumption)).mono ?_; rintro e w2 ⟨rfl, f2⟩; have F2 := Fr.trans (by assumption) f2))
  all_goals (rename_i hH; go_wp2; go_ret; exact ⟨rfl, J.frame (f0.trans hH) (by simp), (f0.trans hH).below (by have := J.R.base; have := J.R.hb.lt; omega) (by simp)⟩)

set_option maxRecDepth 100000 in
set_option maxHeartbeats 1000000 in
theorem act_setelem_no {w : World} {B b r : Nat} {lim used rk rn : Int} {sv sr : Value} {T : List Thing} {U : List RT} (J : JI w B b r lim used rk rn sv sr T U) (vk vn wk wn xk xn rec n : Int) (cs : Value) (h : elemTrap (T.map Thing.abs) vk vn wk wn ≠ 0) :
    Calls Try.prog 11 #[.pointer (some ⟨b, 0, none⟩), .pointer (some ⟨r, 0, none⟩), actVal 7 vk vn wk wn xk xn rec n cs] w fun e w' => e = .returned (.bool true) ∧ JI w' B b r lim used rk rn sv sr T U ∧ Below B w w' := by
  unfold actVal
  go_enter Try.func11, Try.ntmps11
  go_wp2_with fail
  have A0 : ABox (w.alloc (.cells #[.int .i64 7, .int .i64 vk, .int .i64 vn, .int .i64 wk, .int .i64 wn, .int .i64 xk, .int .i64 xn, .int .i64 rec, .int .i64 n, cs] 33)) w.heap.size 7 vk vn wk wn xk xn rec n cs := heap_alloc_new w _
  have f0 : Fr [] w (w.alloc (.cells #[.int .i64 7, .int .i64 vk, .int .i64 vn, .int .i64 wk, .int .i64 wn, .int .i64 xk, .int .i64 xn, .int .i64 rec, .int .i64 n, cs] 33)) := (Fr.refl _ _).alloc _
  have hBw : B ≤ w.heap.size := by have := J.R.base; have := J.R.hb.lt; omega
  generalize w.alloc (.cells #[.int .i64 7, .int .i64 vk, .int .i64 vn, .int .i64 wk, .int .i64 wn, .int .i64 xk, .int .i64 xn, .int .i64 rec, .int .i64 n, cs] 33) = w0 at *
  generalize w.heap.size = k0 at *
  have J0 := J.frame f0 (by simp)
  have c1 : ∀ w', Fr [] w0 w' → w'.cell? ⟨k0, 1, none⟩ = some (.int .i64 vk) := fun w' f => (A0.fr f (by simp)).cells.2.1
  have c2 : ∀ w', Fr [] w0 w' → w'.cell? ⟨k0, 2, none⟩ = some (.int .i64 vn) := fun w' f => (A0.fr f (by simp)).cells.2.2.1
  have c3 : ∀ w', Fr [] w0 w' → w'.cell? ⟨k0, 3, none⟩ = some (.int .i64 wk) := fun w' f => (A0.fr f (by simp)).cells.2.2.2.1
  have c4 : ∀ w', Fr [] w0 w' → w'.cell? ⟨k0, 4, none⟩ = some (.int .i64 wn) := fun w' f => (A0.fr f (by simp)).cells.2.2.2.2.1
  have c5 : ∀ w', Fr [] w0 w' → w'.cell? ⟨k0, 5, none⟩ = some (.int .i64 xk) := fun w' f => (A0.fr f (by simp)).cells.2.2.2.2.2.1
  have c6 : ∀ w', Fr [] w0 w' → w'.cell? ⟨k0, 6, none⟩ = some (.int .i64 xn) := fun w' f => (A0.fr f (by simp)).cells.2.2.2.2.2.2.1
  have c7 : ∀ w', Fr [] w0 w' → w'.cell? ⟨k0, 7, none⟩ = some (.int .i64 rec) := fun w' f => (A0.fr f (by simp)).cells.2.2.2.2.2.2.2.1
  have c8 : ∀ w', Fr [] w0 w' → w'.cell? ⟨k0, 8, none⟩ = some (.int .i64 n) := fun w' f => (A0.fr f (by simp)).cells.2.2.2.2.2.2.2.2.1
  have hU : elemTrap (U.map RT.abs) vk vn wk wn ≠ 0 := by rw [← J.same]; exact h
  have hE : Hid (elemTrap (U.map RT.abs) vk vn wk wn = elemTrap (T.map Thing.abs) vk vn wk wn) := by unfold Hid; rw [J.same]
  have C1 := fun w' (f : Fr [] w0 w') => SetElem_no (J0.frame f (by simp)).R vk vn wk wn xk xn h
  have C2 := fun w' (f : Fr [] w0 w') => rSetElem_no (J0.frame f (by simp)).Q J.sorts vk vn wk wn xk xn hU
  rw [hE.out] at C2
  generalize elemTrap (T.map Thing.abs) vk vn wk wn = X at *
  go_region_held3 (fun w' => Fr [] w0 w')
    (with_reducible (first | assumption | exact Fr.drew (Fr.refl _ _)))
    (first
      | (go_at_call 20; refine (C1 _ (by assumption)).mono ?_; rintro e w1 ⟨rfl, f1⟩; have F1 := Fr.trans (by assumption) f1)
      | (go_at_call 33; refine (C2 _ (by assumption)).mono ?_; rintro e w2 ⟨rfl, f2⟩; have F2 := Fr.trans (by assumption) f2))
  all_goals (rename_i hH; go_wp2; go_ret; exact ⟨rfl, J.frame (f0.trans hH) (by simp), (f0.trans hH).below (by have := J.R.base; have := J.R.hb.lt; omega) (by simp)⟩)

end Go.Proofs.Ytndjoklinccfjaa
