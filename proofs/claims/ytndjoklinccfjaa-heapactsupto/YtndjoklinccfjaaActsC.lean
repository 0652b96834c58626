/-
  act where both calls only look, or trap: both heaps answer alike and stay as they are; no condition.
-/
import Derived.Test.YtndjoklinccfjaaActsB
namespace Go.Proofs.Ytndjoklinccfjaa
open Go.RowKit

set_option maxRecDepth 100000 in
set_option maxHeartbeats 1000000 in
theorem act_rec_type {w : World} {B b r : Nat} {lim used rk rn : Int} {sv sr : Value} {T : List Thing} {U : List RT} (J : JI w B b r lim used rk rn sv sr T U) (vk vn wk wn xk xn rec n : Int) (cs : Value) (h : rec < 0 ∨ n < 0 ∨ 1000 < n) :
    Calls Try.prog 11 #[.pointer (some ⟨b, 0, none⟩), .pointer (some ⟨r, 0, none⟩), actVal 0 vk vn wk wn xk xn rec n cs] w fun e w' => e = .returned (.bool true) ∧ JI w' B b r lim used rk rn sv sr T U ∧ Below B w w' := by
  unfold actVal
  go_enter Try.func11, Try.ntmps11
  go_wp2_with fail
  have A0 : ABox (w.alloc (.cells #[.int .i64 0, .int .i64 vk, .int .i64 vn, .int .i64 wk, .int .i64 wn, .int .i64 xk, .int .i64 xn, .int .i64 rec, .int .i64 n, cs] 33)) w.heap.size 0 vk vn wk wn xk xn rec n cs := heap_alloc_new w _
  have f0 : Fr [] w (w.alloc (.cells #[.int .i64 0, .int .i64 vk, .int .i64 vn, .int .i64 wk, .int .i64 wn, .int .i64 xk, .int .i64 xn, .int .i64 rec, .int .i64 n, cs] 33)) := (Fr.refl _ _).alloc _
  have hBw : B ≤ w.heap.size := by have := J.R.base; have := J.R.hb.lt; omega
  generalize w.alloc (.cells #[.int .i64 0, .int .i64 vk, .int .i64 vn, .int .i64 wk, .int .i64 wn, .int .i64 xk, .int .i64 xn, .int .i64 rec, .int .i64 n, cs] 33) = w0 at *
  have J0 := J.frame f0 (by simp)
  refine (rec_type J0.R.hb rec n h).mono ?_
  rintro e w1 ⟨rfl, f1⟩
  have J1 := J0.frame f1 (by simp)
  have A2 := fun o => (A0.fr f1 (by simp)).fr ((Fr.refl [] w1).alloc o) (by simp)
  have J2 := fun o => J1.frame ((Fr.refl [] w1).alloc o) (by simp)
  have cc := fun o => (A2 o).cells
  have V2 := Box.new w1 0 0
  have f2 : Fr [] w1 (w1.alloc (.cells #[.int .i64 0, .int .i64 0] 30)) := (Fr.refl _ _).alloc _
  go_wp2_with fail
  refine (rrec_type rec n h).mono ?_
  rintro e w3 ⟨rfl, f3⟩
  have V3 := V2.fr f3 (by simp)
  have v0 := fun o => (V3.fr ((Fr.refl [] w3).alloc o) (by simp)).c0
  have v1 := fun o => (V3.fr ((Fr.refl [] w3).alloc o) (by simp)).c1
  have F : Fr [] w w3 := ((f0.trans f1).trans f2).trans f3
  clear A0 A2 cc V2 V3 f0 f1 f2 f3 J0 J1 J2
  go_wp2
  go_ret
  exact ⟨rfl, J.frame (F.alloc _) (by simp), (F.alloc _).below hBw (by simp)⟩

set_option maxRecDepth 100000 in
set_option maxHeartbeats 1000000 in
theorem act_rec_no {w : World} {B b r : Nat} {lim used rk rn : Int} {sv sr : Value} {T : List Thing} {U : List RT} (J : JI w B b r lim used rk rn sv sr T U) (vk vn wk wn xk xn rec n : Int) (cs : Value) (hr : 0 ≤ rec) (h0 : 0 ≤ n) (h1 : n ≤ 1000) (hc : lim - used < 1 + n) :
    Calls Try.prog 11 #[.pointer (some ⟨b, 0, none⟩), .pointer (some ⟨r, 0, none⟩), actVal 0 vk vn wk wn xk xn rec n cs] w fun e w' => e = .returned (.bool true) ∧ JI w' B b r lim used rk rn sv sr T U ∧ Below B w w' := by
  unfold actVal
  go_enter Try.func11, Try.ntmps11
  go_wp2_with fail
  have A0 : ABox (w.alloc (.cells #[.int .i64 0, .int .i64 vk, .int .i64 vn, .int .i64 wk, .int .i64 wn, .int .i64 xk, .int .i64 xn, .int .i64 rec, .int .i64 n, cs] 33)) w.heap.size 0 vk vn wk wn xk xn rec n cs := heap_alloc_new w _
  have f0 : Fr [] w (w.alloc (.cells #[.int .i64 0, .int .i64 vk, .int .i64 vn, .int .i64 wk, .int .i64 wn, .int .i64 xk, .int .i64 xn, .int .i64 rec, .int .i64 n, cs] 33)) := (Fr.refl _ _).alloc _
  have hBw : B ≤ w.heap.size := by have := J.R.base; have := J.R.hb.lt; omega
  generalize w.alloc (.cells #[.int .i64 0, .int .i64 vk, .int .i64 vn, .int .i64 wk, .int .i64 wn, .int .i64 xk, .int .i64 xn, .int .i64 rec, .int .i64 n, cs] 33) = w0 at *
  have J0 := J.frame f0 (by simp)
  refine (rec_no J0.R.hb rec n hr h0 h1 J.hl J.hu J.hul J.hlm hc).mono ?_
  rintro e w1 ⟨rfl, f1⟩
  have J1 := J0.frame f1 (by simp)
  have A2 := fun o => (A0.fr f1 (by simp)).fr ((Fr.refl [] w1).alloc o) (by simp)
  have J2 := fun o => J1.frame ((Fr.refl [] w1).alloc o) (by simp)
  have cc := fun o => (A2 o).cells
  have V2 := Box.new w1 0 0
  have f2 : Fr [] w1 (w1.alloc (.cells #[.int .i64 0, .int .i64 0] 30)) := (Fr.refl _ _).alloc _
  go_wp2_with fail
  refine (rrec_no (J2 _).Q.hb rec n hr h0 h1 J.hl J.hu J.hul J.hlm hc).mono ?_
  rintro e w3 ⟨rfl, f3⟩
  have V3 := V2.fr f3 (by simp)
  have v0 := fun o => (V3.fr ((Fr.refl [] w3).alloc o) (by simp)).c0
  have v1 := fun o => (V3.fr ((Fr.refl [] w3).alloc o) (by simp)).c1
  have F : Fr [] w w3 := ((f0.trans f1).trans f2).trans f3
  clear A0 A2 cc V2 V3 f0 f1 f2 f3 J0 J1 J2
  go_wp2
  go_ret
  exact ⟨rfl, J.frame (F.alloc _) (by simp), (F.alloc _).below hBw (by simp)⟩

set_option maxRecDepth 100000 in
set_option maxHeartbeats 1000000 in
theorem act_arr_no {w : World} {B b r : Nat} {lim used rk rn : Int} {sv sr : Value} {T : List Thing} {U : List RT} (J : JI w B b r lim used rk rn sv sr T U) (vk vn wk wn xk xn rec n : Int) (cs : Value) (h : arrMake lim used vk vn ≠ 0) :
    Calls Try.prog 11 #[.pointer (some ⟨b, 0, none⟩), .pointer (some ⟨r, 0, none⟩), actVal 1 vk vn wk wn xk xn rec n cs] w fun e w' => e = .returned (.bool true) ∧ JI w' B b r lim used rk rn sv sr T U ∧ Below B w w' := by
  unfold actVal
  go_enter Try.func11, Try.ntmps11
  go_wp2_with fail
  have A0 : ABox (w.alloc (.cells #[.int .i64 1, .int .i64 vk, .int .i64 vn, .int .i64 wk, .int .i64 wn, .int .i64 xk, .int .i64 xn, .int .i64 rec, .int .i64 n, cs] 33)) w.heap.size 1 vk vn wk wn xk xn rec n cs := heap_alloc_new w _
  have f0 : Fr [] w (w.alloc (.cells #[.int .i64 1, .int .i64 vk, .int .i64 vn, .int .i64 wk, .int .i64 wn, .int .i64 xk, .int .i64 xn, .int .i64 rec, .int .i64 n, cs] 33)) := (Fr.refl _ _).alloc _
  have hBw : B ≤ w.heap.size := by have := J.R.base; have := J.R.hb.lt; omega
  generalize w.alloc (.cells #[.int .i64 1, .int .i64 vk, .int .i64 vn, .int .i64 wk, .int .i64 wn, .int .i64 xk, .int .i64 xn, .int .i64 rec, .int .i64 n, cs] 33) = w0 at *
  have J0 := J.frame f0 (by simp)
  refine (Arr_no J0.R.hb vk vn J.hl J.hu J.hul J.hlm h).mono ?_
  rintro e w1 ⟨rfl, f1⟩
  have J1 := J0.frame f1 (by simp)
  have A2 := fun o => (A0.fr f1 (by simp)).fr ((Fr.refl [] w1).alloc o) (by simp)
  have J2 := fun o => J1.frame ((Fr.refl [] w1).alloc o) (by simp)
  have cc := fun o => (A2 o).cells
  have V2 := Box.new w1 0 0
  have f2 : Fr [] w1 (w1.alloc (.cells #[.int .i64 0, .int .i64 0] 30)) := (Fr.refl _ _).alloc _
  go_wp2_with fail
  refine (rarr_no (J2 _).Q.hb vk vn J.hl J.hu J.hul J.hlm h).mono ?_
  rintro e w3 ⟨rfl, f3⟩
  have V3 := V2.fr f3 (by simp)
  have v0 := fun o => (V3.fr ((Fr.refl [] w3).alloc o) (by simp)).c0
  have v1 := fun o => (V3.fr ((Fr.refl [] w3).alloc o) (by simp)).c1
  have F : Fr [] w w3 := ((f0.trans f1).trans f2).trans f3
  clear A0 A2 cc V2 V3 f0 f1 f2 f3 J0 J1 J2
  go_wp2
  go_ret
  exact ⟨rfl, J.frame (F.alloc _) (by simp), (F.alloc _).below hBw (by simp)⟩

set_option maxRecDepth 100000 in
set_option maxHeartbeats 1000000 in
theorem act_field_no {w : World} {B b r : Nat} {lim used rk rn : Int} {sv sr : Value} {T : List Thing} {U : List RT} (J : JI w B b r lim used rk rn sv sr T U) (vk vn wk wn xk xn rec n : Int) (cs : Value) (h : fieldTrap (T.map Thing.abs) vk vn rec n ≠ 0) :
    Calls Try.prog 11 #[.pointer (some ⟨b, 0, none⟩), .pointer (some ⟨r, 0, none⟩), actVal 4 vk vn wk wn xk xn rec n cs] w fun e w' => e = .returned (.bool true) ∧ JI w' B b r lim used rk rn sv sr T U ∧ Below B w w' := by
  unfold actVal
  have hU : fieldTrap (U.map RT.abs) vk vn rec n ≠ 0 := by rw [← J.same]; exact h
  have e : fieldTrap (U.map RT.abs) vk vn rec n = fieldTrap (T.map Thing.abs) vk vn rec n := by rw [J.same]
  have hE : Hid (fieldTrap (U.map RT.abs) vk vn rec n = fieldTrap (T.map Thing.abs) vk vn rec n) := e
  clear e
  go_enter Try.func11, Try.ntmps11
  go_wp2_with fail
  have A0 : ABox (w.alloc (.cells #[.int .i64 4, .int .i64 vk, .int .i64 vn, .int .i64 wk, .int .i64 wn, .int .i64 xk, .int .i64 xn, .int .i64 rec, .int .i64 n, cs] 33)) w.heap.size 4 vk vn wk wn xk xn rec n cs := heap_alloc_new w _
  have f0 : Fr [] w (w.alloc (.cells #[.int .i64 4, .int .i64 vk, .int .i64 vn, .int .i64 wk, .int .i64 wn, .int .i64 xk, .int .i64 xn, .int .i64 rec, .int .i64 n, cs] 33)) := (Fr.refl _ _).alloc _
  have hBw : B ≤ w.heap.size := by have := J.R.base; have := J.R.hb.lt; omega
  generalize w.alloc (.cells #[.int .i64 4, .int .i64 vk, .int .i64 vn, .int .i64 wk, .int .i64 wn, .int .i64 xk, .int .i64 xn, .int .i64 rec, .int .i64 n, cs] 33) = w0 at *
  have J0 := J.frame f0 (by simp)
  refine (Field_no J0.R vk vn rec n h).mono ?_
  rintro e w1 ⟨rfl, f1⟩
  have J1 := J0.frame f1 (by simp)
  have A2 := fun o => (A0.fr f1 (by simp)).fr ((Fr.refl [] w1).alloc o) (by simp)
  have J2 := fun o => J1.frame ((Fr.refl [] w1).alloc o) (by simp)
  have cc := fun o => (A2 o).cells
  have V2 := Box.new w1 0 0
  have f2 : Fr [] w1 (w1.alloc (.cells #[.int .i64 0, .int .i64 0] 30)) := (Fr.refl _ _).alloc _
  go_wp2_with fail
  refine (rField_no (J2 _).Q vk vn rec n hU).mono ?_
  rw [hE.out]
  generalize fieldTrap (T.map Thing.abs) vk vn rec n = X at *
  rintro e w3 ⟨rfl, f3⟩
  have V3 := V2.fr f3 (by simp)
  have v0 := fun o => (V3.fr ((Fr.refl [] w3).alloc o) (by simp)).c0
  have v1 := fun o => (V3.fr ((Fr.refl [] w3).alloc o) (by simp)).c1
  have F : Fr [] w w3 := ((f0.trans f1).trans f2).trans f3
  clear A0 A2 cc V2 V3 f0 f1 f2 f3 J0 J1 J2
  go_wp2
  go_ret
  exact ⟨rfl, J.frame (F.alloc _) (by simp), (F.alloc _).below hBw (by simp)⟩

set_option maxRecDepth 100000 in
set_option maxHeartbeats 1000000 in
theorem act_elem_no {w : World} {B b r : Nat} {lim used rk rn : Int} {sv sr : Value} {T : List Thing} {U : List RT} (J : JI w B b r lim used rk rn sv sr T U) (vk vn wk wn xk xn rec n : Int) (cs : Value) (h : elemTrap (T.map Thing.abs) vk vn wk wn ≠ 0) :
    Calls Try.prog 11 #[.pointer (some ⟨b, 0, none⟩), .pointer (some ⟨r, 0, none⟩), actVal 6 vk vn wk wn xk xn rec n cs] w fun e w' => e = .returned (.bool true) ∧ JI w' B b r lim used rk rn sv sr T U ∧ Below B w w' := by
  unfold actVal
  have hU : elemTrap (U.map RT.abs) vk vn wk wn ≠ 0 := by rw [← J.same]; exact h
  have e : elemTrap (U.map RT.abs) vk vn wk wn = elemTrap (T.map Thing.abs) vk vn wk wn := by rw [J.same]
  have hE : Hid (elemTrap (U.map RT.abs) vk vn wk wn = elemTrap (T.map Thing.abs) vk vn wk wn) := e
  clear e
  go_enter Try.func11, Try.ntmps11
  go_wp2_with fail
  have A0 : ABox (w.alloc (.cells #[.int .i64 6, .int .i64 vk, .int .i64 vn, .int .i64 wk, .int .i64 wn, .int .i64 xk, .int .i64 xn, .int .i64 rec, .int .i64 n, cs] 33)) w.heap.size 6 vk vn wk wn xk xn rec n cs := heap_alloc_new w _
  have f0 : Fr [] w (w.alloc (.cells #[.int .i64 6, .int .i64 vk, .int .i64 vn, .int .i64 wk, .int .i64 wn, .int .i64 xk, .int .i64 xn, .int .i64 rec, .int .i64 n, cs] 33)) := (Fr.refl _ _).alloc _
  have hBw : B ≤ w.heap.size := by have := J.R.base; have := J.R.hb.lt; omega
  generalize w.alloc (.cells #[.int .i64 6, .int .i64 vk, .int .i64 vn, .int .i64 wk, .int .i64 wn, .int .i64 xk, .int .i64 xn, .int .i64 rec, .int .i64 n, cs] 33) = w0 at *
  have J0 := J.frame f0 (by simp)
  refine (Elem_no J0.R vk vn wk wn h).mono ?_
  rintro e w1 ⟨rfl, f1⟩
  have J1 := J0.frame f1 (by simp)
  have A2 := fun o => (A0.fr f1 (by simp)).fr ((Fr.refl [] w1).alloc o) (by simp)
  have J2 := fun o => J1.frame ((Fr.refl [] w1).alloc o) (by simp)
  have cc := fun o => (A2 o).cells
  have V2 := Box.new w1 0 0
  have f2 : Fr [] w1 (w1.alloc (.cells #[.int .i64 0, .int .i64 0] 30)) := (Fr.refl _ _).alloc _
  go_wp2_with fail
  refine (rElem_no (J2 _).Q J.sorts vk vn wk wn hU).mono ?_
  rw [hE.out]
  generalize elemTrap (T.map Thing.abs) vk vn wk wn = X at *
  rintro e w3 ⟨rfl, f3⟩
  have V3 := V2.fr f3 (by simp)
  have v0 := fun o => (V3.fr ((Fr.refl [] w3).alloc o) (by simp)).c0
  have v1 := fun o => (V3.fr ((Fr.refl [] w3).alloc o) (by simp)).c1
  have F : Fr [] w w3 := ((f0.trans f1).trans f2).trans f3
  clear A0 A2 cc V2 V3 f0 f1 f2 f3 J0 J1 J2
  go_wp2
  go_ret
  exact ⟨rfl, J.frame (F.alloc _) (by simp), (F.alloc _).below hBw (by simp)⟩

set_option maxRecDepth 100000 in
set_option maxHeartbeats 1000000 in
theorem act_len_no {w : World} {B b r : Nat} {lim used rk rn : Int} {sv sr : Value} {T : List Thing} {U : List RT} (J : JI w B b r lim used rk rn sv sr T U) (vk vn wk wn xk xn rec n : Int) (cs : Value) (h : arrTrap (T.map Thing.abs) vk vn ≠ 0) :
    Calls Try.prog 11 #[.pointer (some ⟨b, 0, none⟩), .pointer (some ⟨r, 0, none⟩), actVal 8 vk vn wk wn xk xn rec n cs] w fun e w' => e = .returned (.bool true) ∧ JI w' B b r lim used rk rn sv sr T U ∧ Below B w w' := by
  unfold actVal
  have hU : arrTrap (U.map RT.abs) vk vn ≠ 0 := by rw [← J.same]; exact h
  have e : arrTrap (U.map RT.abs) vk vn = arrTrap (T.map Thing.abs) vk vn := by rw [J.same]
  have hE : Hid (arrTrap (U.map RT.abs) vk vn = arrTrap (T.map Thing.abs) vk vn) := e
  clear e
  go_enter Try.func11, Try.ntmps11
  go_wp2_with fail
  have A0 : ABox (w.alloc (.cells #[.int .i64 8, .int .i64 vk, .int .i64 vn, .int .i64 wk, .int .i64 wn, .int .i64 xk, .int .i64 xn, .int .i64 rec, .int .i64 n, cs] 33)) w.heap.size 8 vk vn wk wn xk xn rec n cs := heap_alloc_new w _
  have f0 : Fr [] w (w.alloc (.cells #[.int .i64 8, .int .i64 vk, .int .i64 vn, .int .i64 wk, .int .i64 wn, .int .i64 xk, .int .i64 xn, .int .i64 rec, .int .i64 n, cs] 33)) := (Fr.refl _ _).alloc _
  have hBw : B ≤ w.heap.size := by have := J.R.base; have := J.R.hb.lt; omega
  generalize w.alloc (.cells #[.int .i64 8, .int .i64 vk, .int .i64 vn, .int .i64 wk, .int .i64 wn, .int .i64 xk, .int .i64 xn, .int .i64 rec, .int .i64 n, cs] 33) = w0 at *
  have J0 := J.frame f0 (by simp)
  refine (Len_no J0.R vk vn h).mono ?_
  rintro e w1 ⟨rfl, f1⟩
  have J1 := J0.frame f1 (by simp)
  have A2 := fun o => (A0.fr f1 (by simp)).fr ((Fr.refl [] w1).alloc o) (by simp)
  have J2 := fun o => J1.frame ((Fr.refl [] w1).alloc o) (by simp)
  have cc := fun o => (A2 o).cells
  have V2 := Box.new w1 0 0
  have f2 : Fr [] w1 (w1.alloc (.cells #[.int .i64 0, .int .i64 0] 30)) := (Fr.refl _ _).alloc _
  go_wp2_with fail
  refine (rLen_no (J2 _).Q vk vn hU).mono ?_
  rw [hE.out]
  generalize arrTrap (T.map Thing.abs) vk vn = X at *
  rintro e w3 ⟨rfl, f3⟩
  have V3 := V2.fr f3 (by simp)
  have v0 := fun o => (V3.fr ((Fr.refl [] w3).alloc o) (by simp)).c0
  have v1 := fun o => (V3.fr ((Fr.refl [] w3).alloc o) (by simp)).c1
  have F : Fr [] w w3 := ((f0.trans f1).trans f2).trans f3
  clear A0 A2 cc V2 V3 f0 f1 f2 f3 J0 J1 J2
  go_wp2
  go_ret
  exact ⟨rfl, J.frame (F.alloc _) (by simp), (F.alloc _).below hBw (by simp)⟩

end Go.Proofs.Ytndjoklinccfjaa
