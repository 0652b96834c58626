/-
  act at Field, Elem and Len where they are answered: both heaps answer alike and stay as they are; no condition.
-/
import Derived.Test.YtndjoklinccfjaaActsC
namespace Go.Proofs.Ytndjoklinccfjaa
open Go.RowKit

theorem JI.twin {w : World} {B b r : Nat} {lim used rk rn : Int} {sv sr : Value} {T : List Thing} {U : List RT} (J : JI w B b r lim used rk rn sv sr T U) {i : Nat} {t : Thing} (ht : T[i]? = some t) : ∃ u, U[i]? = some u ∧ t.abs = u.abs := by
  have h := congrArg (fun l => l[i]?) J.same
  simp only [List.getElem?_map, ht, Option.map_some] at h
  cases hu : U[i]? with
  | none => rw [hu] at h; simp at h
  | some u => rw [hu] at h; simp at h; exact ⟨u, rfl, h⟩

set_option maxRecDepth 100000 in
set_option maxHeartbeats 1000000 in
theorem act_field_ok {w : World} {B b r : Nat} {lim used rk rn : Int} {sv sr : Value} {T : List Thing} {U : List RT} (J : JI w B b r lim used rk rn sv sr T U) (wk wn xk xn : Int) (cs : Value) (i j : Nat) (t : Thing) (ht : T[i]? = some t) (hs : 0 ≤ t.sort) (x : Int × Int) (hx : t.cells[j]? = some x) :
    Calls Try.prog 11 #[.pointer (some ⟨b, 0, none⟩), .pointer (some ⟨r, 0, none⟩), actVal 4 2 (i : Int) wk wn xk xn t.sort (j : Int) cs] w fun e w' => e = .returned (.bool true) ∧ JI w' B b r lim used rk rn sv sr T U ∧ Below B w w' := by
  unfold actVal
  obtain ⟨u, hu, hab⟩ := J.twin ht
  have hsu : u.sort = t.sort := (congrArg Prod.fst hab).symm
  have hcu : u.cells = t.cells := (congrArg Prod.snd hab).symm
  have HS : Hid (u.sort = t.sort) := hsu
  have HC : Hid (u.cells = t.cells) := hcu
  clear hsu hcu hab
  go_enter Try.func11, Try.ntmps11
  go_wp2_with fail
  have A0 : ABox (w.alloc (.cells #[.int .i64 4, .int .i64 2, .int .i64 (i : Int), .int .i64 wk, .int .i64 wn, .int .i64 xk, .int .i64 xn, .int .i64 t.sort, .int .i64 (j : Int), cs] 33)) w.heap.size 4 2 (i : Int) wk wn xk xn t.sort (j : Int) cs := heap_alloc_new w _
  have f0 : Fr [] w (w.alloc (.cells #[.int .i64 4, .int .i64 2, .int .i64 (i : Int), .int .i64 wk, .int .i64 wn, .int .i64 xk, .int .i64 xn, .int .i64 t.sort, .int .i64 (j : Int), cs] 33)) := (Fr.refl _ _).alloc _
  have hBw : B ≤ w.heap.size := by have := J.R.base; have := J.R.hb.lt; omega
  generalize w.alloc (.cells #[.int .i64 4, .int .i64 2, .int .i64 (i : Int), .int .i64 wk, .int .i64 wn, .int .i64 xk, .int .i64 xn, .int .i64 t.sort, .int .i64 (j : Int), cs] 33) = w0 at *
  have J0 := J.frame f0 (by simp)
  refine (Field_ok J0.R i t ht j hs x hx).mono ?_
  rintro e w1 ⟨rfl, f1⟩
  have J1 := J0.frame f1 (by simp)
  have A2 := fun o => (A0.fr f1 (by simp)).fr ((Fr.refl [] w1).alloc o) (by simp)
  have J2 := fun o => J1.frame ((Fr.refl [] w1).alloc o) (by simp)
  have cc := fun o => (A2 o).cells
  have V2 := Box.new w1 x.1 x.2
  have f2 : Fr [] w1 (w1.alloc (.cells #[.int .i64 x.1, .int .i64 x.2] 30)) := (Fr.refl _ _).alloc _
  go_wp2_with fail
  refine (rField_ok (J2 _).Q i u hu t.sort j hs HS.out x (by rw [HC.out]; exact hx)).mono ?_
  rintro e w3 ⟨rfl, f3⟩
  have V3 := V2.fr f3 (by simp)
  have v0 := fun o => (V3.fr ((Fr.refl [] w3).alloc o) (by simp)).c0
  have v1 := fun o => (V3.fr ((Fr.refl [] w3).alloc o) (by simp)).c1
  have F : Fr [] w w3 := ((f0.trans f1).trans f2).trans f3
  clear A0 A2 cc V2 V3 f0 f1 f2 f3 J0 J1 J2
  go_wp2
  go_ret
  exact ⟨rfl, J.frame (F.alloc _) (by simp), (F.alloc _).below hBw (by simp)⟩

set_option maxRecDepth 100000 in
set_option maxHeartbeats 1000000 in
theorem act_elem_ok {w : World} {B b r : Nat} {lim used rk rn : Int} {sv sr : Value} {T : List Thing} {U : List RT} (J : JI w B b r lim used rk rn sv sr T U) (xk xn rec n : Int) (cs : Value) (i j : Nat) (t : Thing) (ht : T[i]? = some t) (hs : t.sort < 0) (x : Int × Int) (hx : t.cells[j]? = some x) :
    Calls Try.prog 11 #[.pointer (some ⟨b, 0, none⟩), .pointer (some ⟨r, 0, none⟩), actVal 6 2 (i : Int) 0 (j : Int) xk xn rec n cs] w fun e w' => e = .returned (.bool true) ∧ JI w' B b r lim used rk rn sv sr T U ∧ Below B w w' := by
  unfold actVal
  obtain ⟨u, hu, hab⟩ := J.twin ht
  have hsu : u.sort = t.sort := (congrArg Prod.fst hab).symm
  have hcu : u.cells = t.cells := (congrArg Prod.snd hab).symm
  have HS : Hid (u.sort = t.sort) := hsu
  have HC : Hid (u.cells = t.cells) := hcu
  clear hsu hcu hab
  go_enter Try.func11, Try.ntmps11
  go_wp2_with fail
  have A0 : ABox (w.alloc (.cells #[.int .i64 6, .int .i64 2, .int .i64 (i : Int), .int .i64 0, .int .i64 (j : Int), .int .i64 xk, .int .i64 xn, .int .i64 rec, .int .i64 n, cs] 33)) w.heap.size 6 2 (i : Int) 0 (j : Int) xk xn rec n cs := heap_alloc_new w _
  have f0 : Fr [] w (w.alloc (.cells #[.int .i64 6, .int .i64 2, .int .i64 (i : Int), .int .i64 0, .int .i64 (j : Int), .int .i64 xk, .int .i64 xn, .int .i64 rec, .int .i64 n, cs] 33)) := (Fr.refl _ _).alloc _
  have hBw : B ≤ w.heap.size := by have := J.R.base; have := J.R.hb.lt; omega
  generalize w.alloc (.cells #[.int .i64 6, .int .i64 2, .int .i64 (i : Int), .int .i64 0, .int .i64 (j : Int), .int .i64 xk, .int .i64 xn, .int .i64 rec, .int .i64 n, cs] 33) = w0 at *
  have J0 := J.frame f0 (by simp)
  refine (Elem_ok J0.R i t ht hs j x hx).mono ?_
  rintro e w1 ⟨rfl, f1⟩
  have J1 := J0.frame f1 (by simp)
  have A2 := fun o => (A0.fr f1 (by simp)).fr ((Fr.refl [] w1).alloc o) (by simp)
  have J2 := fun o => J1.frame ((Fr.refl [] w1).alloc o) (by simp)
  have cc := fun o => (A2 o).cells
  have V2 := Box.new w1 x.1 x.2
  have f2 : Fr [] w1 (w1.alloc (.cells #[.int .i64 x.1, .int .i64 x.2] 30)) := (Fr.refl _ _).alloc _
  go_wp2_with fail
  refine (rElem_ok (J2 _).Q i u hu (by have := J.sorts u (List.mem_of_getElem? hu); have := HS.out; omega) j x (by rw [HC.out]; exact hx)).mono ?_
  rintro e w3 ⟨rfl, f3⟩
  have V3 := V2.fr f3 (by simp)
  have v0 := fun o => (V3.fr ((Fr.refl [] w3).alloc o) (by simp)).c0
  have v1 := fun o => (V3.fr ((Fr.refl [] w3).alloc o) (by simp)).c1
  have F : Fr [] w w3 := ((f0.trans f1).trans f2).trans f3
  clear A0 A2 cc V2 V3 f0 f1 f2 f3 J0 J1 J2
  go_wp2
  go_ret
  exact ⟨rfl, J.frame (F.alloc _) (by simp), (F.alloc _).below hBw (by simp)⟩

set_option maxRecDepth 100000 in
set_option maxHeartbeats 1000000 in
theorem act_len_ok {w : World} {B b r : Nat} {lim used rk rn : Int} {sv sr : Value} {T : List Thing} {U : List RT} (J : JI w B b r lim used rk rn sv sr T U) (wk wn xk xn rec n : Int) (cs : Value) (i : Nat) (t : Thing) (ht : T[i]? = some t) (hs : t.sort < 0) :
    Calls Try.prog 11 #[.pointer (some ⟨b, 0, none⟩), .pointer (some ⟨r, 0, none⟩), actVal 8 2 (i : Int) wk wn xk xn rec n cs] w fun e w' => e = .returned (.bool true) ∧ JI w' B b r lim used rk rn sv sr T U ∧ Below B w w' := by
  unfold actVal
  obtain ⟨u, hu, hab⟩ := J.twin ht
  have hsu : u.sort = t.sort := (congrArg Prod.fst hab).symm
  have hcu : u.cells = t.cells := (congrArg Prod.snd hab).symm
  have HS : Hid (u.sort = t.sort) := hsu
  have HC : Hid (u.cells = t.cells) := hcu
  clear hsu hcu hab
  go_enter Try.func11, Try.ntmps11
  go_wp2_with fail
  have A0 : ABox (w.alloc (.cells #[.int .i64 8, .int .i64 2, .int .i64 (i : Int), .int .i64 wk, .int .i64 wn, .int .i64 xk, .int .i64 xn, .int .i64 rec, .int .i64 n, cs] 33)) w.heap.size 8 2 (i : Int) wk wn xk xn rec n cs := heap_alloc_new w _
  have f0 : Fr [] w (w.alloc (.cells #[.int .i64 8, .int .i64 2, .int .i64 (i : Int), .int .i64 wk, .int .i64 wn, .int .i64 xk, .int .i64 xn, .int .i64 rec, .int .i64 n, cs] 33)) := (Fr.refl _ _).alloc _
  have hBw : B ≤ w.heap.size := by have := J.R.base; have := J.R.hb.lt; omega
  generalize w.alloc (.cells #[.int .i64 8, .int .i64 2, .int .i64 (i : Int), .int .i64 wk, .int .i64 wn, .int .i64 xk, .int .i64 xn, .int .i64 rec, .int .i64 n, cs] 33) = w0 at *
  have J0 := J.frame f0 (by simp)
  refine (Len_ok J0.R i t ht hs).mono ?_
  rintro e w1 ⟨rfl, f1⟩
  have J1 := J0.frame f1 (by simp)
  have A2 := fun o => (A0.fr f1 (by simp)).fr ((Fr.refl [] w1).alloc o) (by simp)
  have J2 := fun o => J1.frame ((Fr.refl [] w1).alloc o) (by simp)
  have cc := fun o => (A2 o).cells
  have V2 := Box.new w1 0 (t.cells.length : Int)
  have f2 : Fr [] w1 (w1.alloc (.cells #[.int .i64 0, .int .i64 (t.cells.length : Int)] 30)) := (Fr.refl _ _).alloc _
  go_wp2_with fail
  refine (rLen_ok (J2 _).Q i u hu (by have := J.sorts u (List.mem_of_getElem? hu); have := HS.out; omega)).mono ?_
  rw [HC.out]
  rintro e w3 ⟨rfl, f3⟩
  have V3 := V2.fr f3 (by simp)
  have v0 := fun o => (V3.fr ((Fr.refl [] w3).alloc o) (by simp)).c0
  have v1 := fun o => (V3.fr ((Fr.refl [] w3).alloc o) (by simp)).c1
  have F : Fr [] w w3 := ((f0.trans f1).trans f2).trans f3
  clear A0 A2 cc V2 V3 f0 f1 f2 f3 J0 J1 J2
  go_wp2
  go_ret
  exact ⟨rfl, J.frame (F.alloc _) (by simp), (F.alloc _).below hBw (by simp)⟩

end Go.Proofs.Ytndjoklinccfjaa
