/-
  Where the reference's record's cell lies, or the trap; no condition.
-/
import Derived.Test.YtkjkpkmmojchiaaGreatDoorHeapX
namespace Go.Proofs.YtkjkpkmmojchiaaGreatDoor
open Go.RowKit

theorem rflat_at : ∀ (U : List RT) (i : Nat) (u : RT), U[i]? = some u → (rflat U)[i * 2]? = some (.int .i64 u.sort) ∧ (rflat U)[i * 2 + 1]? = some u.sl
  | [], _, _, h => by simp at h
  | y :: r, 0, x, h => by simp at h; subst h; exact ⟨rfl, rfl⟩
  | y :: r, a + 1, x, h => by
    have ih := rflat_at r a x (by simpa using h)
    rw [show (a + 1) * 2 = a * 2 + 1 + 1 from by omega]
    simpa [rflat] using ih

theorem RRep.cell {w : World} {B b : Nat} {lim used : Int} {sv : Value} {rk rn : Int} {U : List RT} (R : RRep w B b lim used sv rk rn U) {i : Nat} {u : RT} (hu : U[i]? = some u) :
    ∃ g c, sv = .slice (some ⟨g, 0, none⟩) U.length c ∧ w.cell? ⟨g, i * 2, none⟩ = some (.int .i64 u.sort) ∧ w.cell? ⟨g, i * 2 + 1, none⟩ = some u.sl ∧ g < w.heap.size := by
  have h1 := rflat_at U i u hu
  obtain ⟨g, c, e, hc, _, hlt⟩ := own_cells R.row h1.1
  obtain ⟨g', c', e', hc', _, _⟩ := own_cells R.row h1.2
  rw [e] at e'
  simp at e'
  obtain ⟨rfl, rfl⟩ := e'
  exact ⟨g, c, e, hc, hc', hlt⟩

set_option maxRecDepth 100000 in
set_option maxHeartbeats 400000 in
theorem rfield_null {w : World} {b : Nat} (n r a : Int) :
    Calls Tryz.prog 148 #[.pointer (some ⟨b, 0, none⟩), .agg #[.int .i64 1, .int .i64 n], .int .i64 r, .int .i64 a] w fun e w' => e = .returned (.tuple #[.int .i64 0, .int .i64 3]) ∧ Fr [] w w' := by
  go_enter Tryz.func148, Tryz.ntmps148
  go_wp2_with fail
  go_ret2
  exact ⟨rfl, (Fr.refl _ _).alloc _⟩

set_option maxRecDepth 100000 in
set_option maxHeartbeats 400000 in
theorem rfield_bad {w : World} {B b : Nat} {lim used : Int} {sv : Value} {rk rn : Int} {U : List RT} (R : RRep w B b lim used sv rk rn U) (k n : Int) (h1 : k ≠ 1) (h : badN U.length k n) (r a : Int) :
    Calls Tryz.prog 148 #[.pointer (some ⟨b, 0, none⟩), .agg #[.int .i64 k, .int .i64 n], .int .i64 r, .int .i64 a] w fun e w' => e = .returned (.tuple #[.int .i64 0, .int .i64 6]) ∧ Fr [] w w' := by
  have hA : ∀ o, RRep (w.alloc o) B b lim used sv rk rn U := fun o => R.frame (S := []) ((Fr.refl _ _).alloc o) (by simp)
  have hk : (k == 1) = false := by simpa using h1
  go_enter Tryz.func148, Tryz.ntmps148
  go_wp2_with (go_at_call 131; refine (At_bad (hA _) k n h).mono ?_; rintro e w' ⟨rfl, f⟩)
  go_ret2
  exact ⟨rfl, ((Fr.refl _ _).alloc _).trans f⟩

/-- What a walk reads of thing i in a later world. -/
theorem RRep.reads {w : World} {B b : Nat} {lim used : Int} {sv : Value} {rk rn : Int} {U : List RT} (R : RRep w B b lim used sv rk rn U) {i : Nat} {u : RT} (hu : U[i]? = some u) :
    ∃ g c a1 c1, sv = .slice (some ⟨g, 0, none⟩) U.length c ∧ u.sl = .slice a1 u.cells.length c1 ∧ ∀ w', Fr [] w w' → w'.cell? ⟨b, 0, none⟩ = some (.slice (some ⟨g, 0, none⟩) U.length c) ∧ w'.cell? ⟨g, i * 2, none⟩ = some (.int .i64 u.sort) ∧ w'.cell? ⟨g, i * 2 + 1, none⟩ = some (.slice a1 u.cells.length c1) := by
  obtain ⟨g, c, e, _⟩ := R.cell hu
  obtain ⟨a1, c1, e1, _⟩ := own_slice (R.th u (List.mem_of_getElem? hu))
  refine ⟨g, c, a1, c1, e, e1, fun w' f => ?_⟩
  have R' := R.frame f (by simp)
  obtain ⟨g', c', e', h1, h2, _⟩ := R'.cell hu
  rw [e] at e'
  simp at e'
  obtain ⟨rfl, rfl⟩ := e'
  refine ⟨by rw [← e]; exact R'.hb.c0, h1, by rw [← e1]; exact h2⟩

set_option maxRecDepth 100000 in
set_option maxHeartbeats 400000 in
theorem rfield_neg {w : World} {B b : Nat} {lim used : Int} {sv : Value} {rk rn : Int} {U : List RT} (R : RRep w B b lim used sv rk rn U) (i : Nat) (u : RT) (hu : U[i]? = some u) (r a : Int) (h1 : r < 0) :
    Calls Tryz.prog 148 #[.pointer (some ⟨b, 0, none⟩), .agg #[.int .i64 2, .int .i64 (i : Int)], .int .i64 r, .int .i64 a] w fun e w' => e = .returned (.tuple #[.int .i64 0, .int .i64 6]) ∧ Fr [] w w' := by
  have hA : ∀ o, RRep (w.alloc o) B b lim used sv rk rn U := fun o => R.frame (S := []) ((Fr.refl _ _).alloc o) (by simp)
  have hi : i < U.length := (List.getElem?_eq_some_iff.1 hu).1
  obtain ⟨g, c, a1, c1, hsv, hsl, hread⟩ := R.reads hu
  have hd0 : decide ((i : Int) < 0) = false := by simp
  have hd1 : decide (r < 0) = true := by simpa using h1
  go_enter Tryz.func148, Tryz.ntmps148
  go_wp2_with (go_at_call 131; refine (At_ok (hA _) (i : Int) (by omega) (by omega)).mono ?_; rintro e w' ⟨rfl, f⟩; have ⟨d0, d1, d2⟩ := hread w' (((Fr.refl _ _).alloc _).trans f))
  go_ret2
  exact ⟨rfl, ((Fr.refl _ _).alloc _).trans f⟩

set_option maxRecDepth 100000 in
set_option maxHeartbeats 400000 in
theorem rfield_sort {w : World} {B b : Nat} {lim used : Int} {sv : Value} {rk rn : Int} {U : List RT} (R : RRep w B b lim used sv rk rn U) (i : Nat) (u : RT) (hu : U[i]? = some u) (r a : Int) (h1 : 0 ≤ r) (h2 : u.sort ≠ r) :
    Calls Tryz.prog 148 #[.pointer (some ⟨b, 0, none⟩), .agg #[.int .i64 2, .int .i64 (i : Int)], .int .i64 r, .int .i64 a] w fun e w' => e = .returned (.tuple #[.int .i64 0, .int .i64 6]) ∧ Fr [] w w' := by
  have hA : ∀ o, RRep (w.alloc o) B b lim used sv rk rn U := fun o => R.frame (S := []) ((Fr.refl _ _).alloc o) (by simp)
  have hi : i < U.length := (List.getElem?_eq_some_iff.1 hu).1
  obtain ⟨g, c, a1, c1, hsv, hsl, hread⟩ := R.reads hu
  have hd0 : decide ((i : Int) < 0) = false := by simp
  have hd1 : decide (r < 0) = false := by simpa using h1
  have hd2 : (u.sort != r) = true := by rw [bne_iff_ne]; exact h2
  go_enter Tryz.func148, Tryz.ntmps148
  go_wp2_with (go_at_call 131; refine (At_ok (hA _) (i : Int) (by omega) (by omega)).mono ?_; rintro e w' ⟨rfl, f⟩; have ⟨d0, d1, d2⟩ := hread w' (((Fr.refl _ _).alloc _).trans f))
  go_ret2
  exact ⟨rfl, ((Fr.refl _ _).alloc _).trans f⟩

set_option maxRecDepth 100000 in
set_option maxHeartbeats 400000 in
theorem rfield_aneg {w : World} {B b : Nat} {lim used : Int} {sv : Value} {rk rn : Int} {U : List RT} (R : RRep w B b lim used sv rk rn U) (i : Nat) (u : RT) (hu : U[i]? = some u) (r a : Int) (h1 : 0 ≤ r) (h2 : u.sort = r) (h3 : a < 0) :
    Calls Tryz.prog 148 #[.pointer (some ⟨b, 0, none⟩), .agg #[.int .i64 2, .int .i64 (i : Int)], .int .i64 r, .int .i64 a] w fun e w' => e = .returned (.tuple #[.int .i64 0, .int .i64 6]) ∧ Fr [] w w' := by
  have hA : ∀ o, RRep (w.alloc o) B b lim used sv rk rn U := fun o => R.frame (S := []) ((Fr.refl _ _).alloc o) (by simp)
  have hi : i < U.length := (List.getElem?_eq_some_iff.1 hu).1
  obtain ⟨g, c, a1, c1, hsv, hsl, hread⟩ := R.reads hu
  have hd0 : decide ((i : Int) < 0) = false := by simp
  have hd1 : decide (r < 0) = false := by simpa using h1
  have hd2 : (u.sort != r) = false := by rw [h2]; simp
  have hd3 : decide (a < 0) = true := by simpa using h3
  clear h2
  go_enter Tryz.func148, Tryz.ntmps148
  go_wp2_with (go_at_call 131; refine (At_ok (hA _) (i : Int) (by omega) (by omega)).mono ?_; rintro e w' ⟨rfl, f⟩; have ⟨d0, d1, d2⟩ := hread w' (((Fr.refl _ _).alloc _).trans f))
  go_ret2
  exact ⟨rfl, ((Fr.refl _ _).alloc _).trans f⟩

set_option maxRecDepth 100000 in
set_option maxHeartbeats 400000 in
theorem rfield_abig {w : World} {B b : Nat} {lim used : Int} {sv : Value} {rk rn : Int} {U : List RT} (R : RRep w B b lim used sv rk rn U) (i : Nat) (u : RT) (hu : U[i]? = some u) (r a : Int) (h1 : 0 ≤ r) (h2 : u.sort = r) (h3 : 0 ≤ a) (h4 : (u.cells.length : Int) ≤ a) :
    Calls Tryz.prog 148 #[.pointer (some ⟨b, 0, none⟩), .agg #[.int .i64 2, .int .i64 (i : Int)], .int .i64 r, .int .i64 a] w fun e w' => e = .returned (.tuple #[.int .i64 0, .int .i64 6]) ∧ Fr [] w w' := by
  have hA : ∀ o, RRep (w.alloc o) B b lim used sv rk rn U := fun o => R.frame (S := []) ((Fr.refl _ _).alloc o) (by simp)
  have hi : i < U.length := (List.getElem?_eq_some_iff.1 hu).1
  obtain ⟨g, c, a1, c1, hsv, hsl, hread⟩ := R.reads hu
  have hd0 : decide ((i : Int) < 0) = false := by simp
  have hd1 : decide (r < 0) = false := by simpa using h1
  have hd2 : (u.sort != r) = false := by rw [h2]; simp
  have hd3 : decide (a < 0) = false := by simpa using h3
  have hd4 : decide ((u.cells.length : Int) ≤ a) = true := by simpa using h4
  clear h2
  go_enter Tryz.func148, Tryz.ntmps148
  go_wp2_with (go_at_call 131; refine (At_ok (hA _) (i : Int) (by omega) (by omega)).mono ?_; rintro e w' ⟨rfl, f⟩; have ⟨d0, d1, d2⟩ := hread w' (((Fr.refl _ _).alloc _).trans f))
  go_ret2
  exact ⟨rfl, ((Fr.refl _ _).alloc _).trans f⟩

set_option maxRecDepth 100000 in
set_option maxHeartbeats 400000 in
theorem rfield_ok {w : World} {B b : Nat} {lim used : Int} {sv : Value} {rk rn : Int} {U : List RT} (R : RRep w B b lim used sv rk rn U) (i : Nat) (u : RT) (hu : U[i]? = some u) (r a : Int) (h1 : 0 ≤ r) (h2 : u.sort = r) (h3 : 0 ≤ a) (h4 : a < (u.cells.length : Int)) :
    Calls Tryz.prog 148 #[.pointer (some ⟨b, 0, none⟩), .agg #[.int .i64 2, .int .i64 (i : Int)], .int .i64 r, .int .i64 a] w fun e w' => e = .returned (.tuple #[.int .i64 (i : Int), .int .i64 0]) ∧ Fr [] w w' := by
  have hA : ∀ o, RRep (w.alloc o) B b lim used sv rk rn U := fun o => R.frame (S := []) ((Fr.refl _ _).alloc o) (by simp)
  have hi : i < U.length := (List.getElem?_eq_some_iff.1 hu).1
  obtain ⟨g, c, a1, c1, hsv, hsl, hread⟩ := R.reads hu
  have hd0 : decide ((i : Int) < 0) = false := by simp
  have hd1 : decide (r < 0) = false := by simpa using h1
  have hd2 : (u.sort != r) = false := by rw [h2]; simp
  have hd3 : decide (a < 0) = false := by simpa using h3
  have hd4 : decide ((u.cells.length : Int) ≤ a) = false := by simpa using h4
  clear h2
  go_enter Tryz.func148, Tryz.ntmps148
  go_wp2_with (go_at_call 131; refine (At_ok (hA _) (i : Int) (by omega) (by omega)).mono ?_; rintro e w' ⟨rfl, f⟩; have ⟨d0, d1, d2⟩ := hread w' (((Fr.refl _ _).alloc _).trans f))
  go_ret2
  exact ⟨rfl, ((Fr.refl _ _).alloc _).trans f⟩

end Go.Proofs.YtkjkpkmmojchiaaGreatDoor
