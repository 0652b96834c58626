/-
  The reference's Elem, SetElem and Len, told to the caller; condition: sorts from -1 on.
-/
import Derived.Test.YtkjkpkmmojchiaaGreatDoorHeapZa
namespace Go.Proofs.YtkjkpkmmojchiaaGreatDoor
open Go.RowKit

set_option maxRecDepth 100000 in
set_option maxHeartbeats 400000 in
theorem rElem_no {w : World} {B b : Nat} {lim used : Int} {sv : Value} {rk rn : Int} {U : List RT} (R : RRep w B b lim used sv rk rn U) (hS : Sorts U) (k n ak an : Int) (h : elemTrap (U.map RT.abs) k n ak an ≠ 0) :
    Calls Tryz.prog 119 #[.pointer (some ⟨b, 0, none⟩), .agg #[.int .i64 k, .int .i64 n], .agg #[.int .i64 ak, .int .i64 an]] w fun e w' => e = .returned (.tuple #[.agg #[.int .i64 0, .int .i64 0], .int .i64 (elemTrap (U.map RT.abs) k n ak an)]) ∧ Fr [] w w' := by
  have hA : ∀ o o' o'', RRep (((w.alloc o).alloc o').alloc o'') B b lim used sv rk rn U := fun o o' o'' => R.frame (S := []) ((((Fr.refl _ _).alloc o).alloc o').alloc o'') (by simp)
  have hF := fun o o' o'' => relem_no (hA o o' o'') hS k n ak an h
  generalize elemTrap (U.map RT.abs) k n ak an = X at *
  have hX : (X != 0) = true := by rw [bne_iff_ne]; exact h
  go_enter Tryz.func119, Tryz.ntmps119
  go_wp2_with fail
  refine (hF _ _ _).mono ?_
  rintro e w' ⟨⟨z, rfl⟩, hfr⟩
  obtain ⟨hl0, hl1, hlf⟩ := res30 ((hfr.block (w.heap.size + 1 + 1) (by simp) (by simp)).trans (blk3 w _ _ _))
  clear hF hA
  go_wp2
  refine bodyPost_ret (v := .tuple #[.agg #[.int .i64 0, .int .i64 0], .int .i64 X]) (by simp [results, Tryz.results119, go_sem, hl0, hl1]) rfl ⟨rfl, ?_⟩
  exact Fr.setCell (Fr.setCell (((((Fr.refl _ _).alloc _).alloc _).alloc _).trans hfr) (.inr (by simp; omega)) _) (.inr (by simp; omega)) _

set_option maxRecDepth 100000 in
set_option maxHeartbeats 400000 in
theorem rElem_ok {w : World} {B b : Nat} {lim used : Int} {sv : Value} {rk rn : Int} {U : List RT} (R : RRep w B b lim used sv rk rn U) (i : Nat) (u : RT) (hu : U[i]? = some u) (hs : u.sort = -1) (j : Nat) (x : Int × Int) (hx : u.cells[j]? = some x) :
    Calls Tryz.prog 119 #[.pointer (some ⟨b, 0, none⟩), .agg #[.int .i64 2, .int .i64 (i : Int)], .agg #[.int .i64 0, .int .i64 (j : Int)]] w fun e w' => e = .returned (.tuple #[.agg #[.int .i64 x.1, .int .i64 x.2], .int .i64 0]) ∧ Fr [] w w' := by
  have hA : ∀ o o' o'', RRep (((w.alloc o).alloc o').alloc o'') B b lim used sv rk rn U := fun o o' o'' => R.frame (S := []) ((((Fr.refl _ _).alloc o).alloc o').alloc o'') (by simp)
  have hi : i < U.length := (List.getElem?_eq_some_iff.1 hu).1
  have hj : j < u.cells.length := (List.getElem?_eq_some_iff.1 hx).1
  have hF := fun o o' o'' => relem_ok (hA o o' o'') i u hu hs (j : Int) (by omega) (by omega)
  obtain ⟨g, c, a1, c1, hsv, hsl, hread⟩ := R.reads hu
  have hmem := List.mem_of_getElem? hu
  have hji : (j : Int) < (u.cells.length : Int) := by omega
  have hii : (i : Int) < (U.length : Int) := by omega
  clear hs
  go_enter Tryz.func119, Tryz.ntmps119
  go_wp2_with fail
  refine (hF _ _ _).mono ?_
  rintro e w' ⟨rfl, hfr⟩
  have hFr := ((((Fr.refl [] w).alloc _).alloc _).alloc _).trans hfr
  obtain ⟨hl0, hl1, hlf⟩ := res30 ((hfr.block (w.heap.size + 1 + 1) (by simp) (by simp)).trans (blk3 w _ _ _))
  have hW : w'.heap[w.heap.size + 1]? = some (.cells #[.int .i64 0, .int .i64 (j : Int)] 33) := by
    rw [hfr.block _ (by simp) (by simp), Below.heap_alloc _ _ _ (by simp)]
    exact blk2 w _ _
  obtain ⟨m0, m1, _⟩ := res30 hW
  obtain ⟨d0, d1, d2⟩ := hread w' hFr
  obtain ⟨g1, c2, e2, x0, x1, _, _⟩ := own_pair ((R.frame hFr (by simp)).th u hmem) hx
  rw [hsl] at e2
  injection e2 with e3 e4 e5
  subst e3 e5
  clear hF hA hread hfr hW
  go_wp2_with fail
  go_region
  all_goals go_wp2
  all_goals (refine bodyPost_ret (v := .tuple #[.agg #[.int .i64 x.1, .int .i64 x.2], .int .i64 0]) (by simp [results, Tryz.results119, go_sem, hl0, hl1]) rfl ⟨rfl, ?_⟩)
  all_goals exact Fr.setCell (Fr.setCell hFr.drew (.inr (by simp; omega)) _) (.inr (by simp; omega)) _

set_option maxRecDepth 100000 in
set_option maxHeartbeats 400000 in
theorem rSetElem_no {w : World} {B b : Nat} {lim used : Int} {sv : Value} {rk rn : Int} {U : List RT} (R : RRep w B b lim used sv rk rn U) (hS : Sorts U) (k n ak an x1 x2 : Int) (h : elemTrap (U.map RT.abs) k n ak an ≠ 0) :
    Calls Tryz.prog 120 #[.pointer (some ⟨b, 0, none⟩), .agg #[.int .i64 k, .int .i64 n], .agg #[.int .i64 ak, .int .i64 an], .agg #[.int .i64 x1, .int .i64 x2]] w fun e w' => e = .returned (.int .i64 (elemTrap (U.map RT.abs) k n ak an)) ∧ Fr [] w w' := by
  have hA : ∀ o o' o'', RRep (((w.alloc o).alloc o').alloc o'') B b lim used sv rk rn U := fun o o' o'' => R.frame (S := []) ((((Fr.refl _ _).alloc o).alloc o').alloc o'') (by simp)
  have hF := fun o o' o'' => relem_no (hA o o' o'') hS k n ak an h
  generalize elemTrap (U.map RT.abs) k n ak an = X at *
  have hX : (X == 0) = false := by simpa using h
  go_enter Tryz.func120, Tryz.ntmps120
  go_wp2_with fail
  refine (hF _ _ _).mono ?_
  rintro e w' ⟨⟨z, rfl⟩, hfr⟩
  clear hF hA
  go_wp2
  go_ret
  exact ⟨rfl, ((((Fr.refl _ _).alloc _).alloc _).alloc _).trans hfr⟩

set_option maxRecDepth 100000 in
set_option maxHeartbeats 400000 in
theorem rSetElem_ok {w : World} {B b : Nat} {lim used : Int} {sv : Value} {rk rn : Int} {U : List RT} (R : RRep w B b lim used sv rk rn U) (i : Nat) (u : RT) (hu : U[i]? = some u) (hs : u.sort = -1) (j : Nat) (hj : j < u.cells.length) (x1 x2 : Int) :
    Calls Tryz.prog 120 #[.pointer (some ⟨b, 0, none⟩), .agg #[.int .i64 2, .int .i64 (i : Int)], .agg #[.int .i64 0, .int .i64 (j : Int)], .agg #[.int .i64 x1, .int .i64 x2]] w fun e w' => e = .returned (.int .i64 0) ∧
      RRep w' B b lim used sv rk rn (U.set i (u.put j (x1, x2))) ∧ Fr u.sl.ownBlock.toList w w' := by
  have hA : ∀ o o' o'', RRep (((w.alloc o).alloc o').alloc o'') B b lim used sv rk rn U := fun o o' o'' => R.frame (S := []) ((((Fr.refl _ _).alloc o).alloc o').alloc o'') (by simp)
  have hi : i < U.length := (List.getElem?_eq_some_iff.1 hu).1
  have hF := fun o o' o'' => relem_ok (hA o o' o'') i u hu hs (j : Int) (by omega) (by omega)
  obtain ⟨g, c, a1, c1, hsv, hsl, hread⟩ := R.reads hu
  have hmem := List.mem_of_getElem? hu
  have hji : (j : Int) < (u.cells.length : Int) := by omega
  have hii : (i : Int) < (U.length : Int) := by omega
  clear hs
  go_enter Tryz.func120, Tryz.ntmps120
  go_wp2_with fail
  refine (hF _ _ _).mono ?_
  rintro e w' ⟨rfl, hfr⟩
  have hFr := ((((Fr.refl [] w).alloc _).alloc _).alloc _).trans hfr
  obtain ⟨hl0, hl1, hlf⟩ := res30 ((hfr.block (w.heap.size + 1 + 1) (by simp) (by simp)).trans (blk3 w _ _ _))
  have hW : w'.heap[w.heap.size + 1]? = some (.cells #[.int .i64 0, .int .i64 (j : Int)] 33) := by
    rw [hfr.block _ (by simp) (by simp), Below.heap_alloc _ _ _ (by simp)]
    exact blk2 w _ _
  obtain ⟨m0, m1, _⟩ := res30 hW
  obtain ⟨d0, d1, d2⟩ := hread w' hFr
  have R' := R.frame hFr (by simp)
  obtain ⟨g1, c2, e2, x0, x1', xf, _⟩ := own_pair (R'.th u hmem) (List.getElem?_eq_getElem hj)
  rw [hsl] at e2
  injection e2 with e3 e4 e5
  subst e3 e5
  clear hF hA hread hfr hW
  go_wp2_with fail
  go_region
  all_goals go_wp2
  all_goals go_ret
  all_goals refine ⟨rfl, ?_, ?_⟩
  all_goals first
    | exact (R'.frame (S := []) (Fr.refl _ _).drew (by simp)).put hu hsl j (x1, x2)
    | (rw [hsl]; exact Fr.setCell (Fr.setCell ((hFr.sub (by simp)).drew) (.inl (by simp [Value.ownBlock])) _) (.inl (by simp [Value.ownBlock])) _)

set_option maxRecDepth 100000 in
set_option maxHeartbeats 400000 in
theorem rLen_no {w : World} {B b : Nat} {lim used : Int} {sv : Value} {rk rn : Int} {U : List RT} (R : RRep w B b lim used sv rk rn U) (k n : Int) (h : arrTrap (U.map RT.abs) k n ≠ 0) :
    Calls Tryz.prog 121 #[.pointer (some ⟨b, 0, none⟩), .agg #[.int .i64 k, .int .i64 n]] w fun e w' => e = .returned (.tuple #[.agg #[.int .i64 0, .int .i64 0], .int .i64 (arrTrap (U.map RT.abs) k n)]) ∧ Fr [] w w' := by
  have hA : ∀ o o', RRep ((w.alloc o).alloc o') B b lim used sv rk rn U := fun o o' => R.frame (S := []) (((Fr.refl _ _).alloc o).alloc o') (by simp)
  have hF := fun o o' => rarray_no (hA o o') k n h
  generalize arrTrap (U.map RT.abs) k n = X at *
  have hX : (X != 0) = true := by rw [bne_iff_ne]; exact h
  go_enter Tryz.func121, Tryz.ntmps121
  go_wp2_with fail
  refine (hF _ _).mono ?_
  rintro e w' ⟨rfl, hfr⟩
  obtain ⟨hl0, hl1, hlf⟩ := res30 ((hfr.block (w.heap.size + 1) (by simp) (by simp)).trans (blk2 w _ _))
  clear hF hA
  go_wp2
  refine bodyPost_ret (v := .tuple #[.agg #[.int .i64 0, .int .i64 0], .int .i64 X]) (by simp [results, Tryz.results121, go_sem, hl0, hl1]) rfl ⟨rfl, ?_⟩
  exact Fr.setCell (Fr.setCell ((((Fr.refl _ _).alloc _).alloc _).trans hfr) (.inr (by simp)) _) (.inr (by simp)) _

set_option maxRecDepth 100000 in
set_option maxHeartbeats 400000 in
theorem rLen_ok {w : World} {B b : Nat} {lim used : Int} {sv : Value} {rk rn : Int} {U : List RT} (R : RRep w B b lim used sv rk rn U) (i : Nat) (u : RT) (hu : U[i]? = some u) (hs : u.sort = -1) :
    Calls Tryz.prog 121 #[.pointer (some ⟨b, 0, none⟩), .agg #[.int .i64 2, .int .i64 (i : Int)]] w fun e w' => e = .returned (.tuple #[.agg #[.int .i64 0, .int .i64 (u.cells.length : Int)], .int .i64 0]) ∧ Fr [] w w' := by
  have hA : ∀ o o', RRep ((w.alloc o).alloc o') B b lim used sv rk rn U := fun o o' => R.frame (S := []) (((Fr.refl _ _).alloc o).alloc o') (by simp)
  have hi : i < U.length := (List.getElem?_eq_some_iff.1 hu).1
  have hii : (i : Int) < (U.length : Int) := by omega
  have hF := fun o o' => rarray_ok (hA o o') i u hu hs
  obtain ⟨g, c, a1, c1, hsv, hsl, hread⟩ := R.reads hu
  clear hs
  go_enter Tryz.func121, Tryz.ntmps121
  go_wp2_with fail
  refine (hF _ _).mono ?_
  rintro e w' ⟨rfl, hfr⟩
  have hFr := (((Fr.refl [] w).alloc _).alloc _).trans hfr
  have hL := (hfr.block (w.heap.size + 1) (by simp) (by simp)).trans (blk2 w _ _)
  obtain ⟨d0, d1, d2⟩ := hread w' hFr
  have hz : w.heap.size + 1 < w'.heap.size := (Array.getElem?_eq_some_iff.1 hL).1
  clear hF hA hread
  go_wp2_with (go_at_call 72; refine (Int_any _ _).mono ?_; rintro e w2 ⟨rfl, f2⟩; have ⟨hl0, hl1, hlf⟩ := res30 ((f2.block _ hz (by simp)).trans hL))
  refine bodyPost_ret (v := .tuple #[.agg #[.int .i64 0, .int .i64 (u.cells.length : Int)], .int .i64 0]) (by simp [results, Tryz.results121, go_sem, hl0, hl1]) rfl ⟨rfl, ?_⟩
  exact Fr.setCell (Fr.setCell (hFr.trans f2) (.inr (by simp)) _) (.inr (by simp)) _
end Go.Proofs.YtkjkpkmmojchiaaGreatDoor
