/-
  The reference's array, elem, Elem, SetElem and Len, for every value and place; condition: sorts from -1 on.
-/
import Derived.Test.YtkjkpkmmojchiaaGreatDoorHeapZ
namespace Go.Proofs.YtkjkpkmmojchiaaGreatDoor
open Go.RowKit

set_option maxRecDepth 100000 in
set_option maxHeartbeats 400000 in
theorem rarray_null {w : World} {b : Nat} (n : Int) :
    Calls Tryz.prog 150 #[.pointer (some ⟨b, 0, none⟩), .agg #[.int .i64 1, .int .i64 n]] w fun e w' => e = .returned (.tuple #[.int .i64 0, .int .i64 3]) ∧ Fr [] w w' := by
  go_enter Tryz.func150, Tryz.ntmps150
  go_wp2_with fail
  go_ret2
  exact ⟨rfl, (Fr.refl _ _).alloc _⟩

set_option maxRecDepth 100000 in
set_option maxHeartbeats 400000 in
theorem rarray_bad {w : World} {B b : Nat} {lim used : Int} {sv : Value} {rk rn : Int} {U : List RT} (R : RRep w B b lim used sv rk rn U) (k n : Int) (h1 : k ≠ 1) (h : badN U.length k n) :
    Calls Tryz.prog 150 #[.pointer (some ⟨b, 0, none⟩), .agg #[.int .i64 k, .int .i64 n]] w fun e w' => e = .returned (.tuple #[.int .i64 0, .int .i64 6]) ∧ Fr [] w w' := by
  have hA : ∀ o, RRep (w.alloc o) B b lim used sv rk rn U := fun o => R.frame (S := []) ((Fr.refl _ _).alloc o) (by simp)
  have hk : (k == 1) = false := by simpa using h1
  go_enter Tryz.func150, Tryz.ntmps150
  go_wp2_with (go_at_call 131; refine (At_bad (hA _) k n h).mono ?_; rintro e w' ⟨rfl, f⟩)
  go_ret2
  exact ⟨rfl, ((Fr.refl _ _).alloc _).trans f⟩

set_option maxRecDepth 100000 in
set_option maxHeartbeats 400000 in
theorem rarray_rec {w : World} {B b : Nat} {lim used : Int} {sv : Value} {rk rn : Int} {U : List RT} (R : RRep w B b lim used sv rk rn U) (i : Nat) (u : RT) (hu : U[i]? = some u) (hs : u.sort ≠ -1) :
    Calls Tryz.prog 150 #[.pointer (some ⟨b, 0, none⟩), .agg #[.int .i64 2, .int .i64 (i : Int)]] w fun e w' => e = .returned (.tuple #[.int .i64 0, .int .i64 6]) ∧ Fr [] w w' := by
  have hA : ∀ o, RRep (w.alloc o) B b lim used sv rk rn U := fun o => R.frame (S := []) ((Fr.refl _ _).alloc o) (by simp)
  have hi : i < U.length := (List.getElem?_eq_some_iff.1 hu).1
  obtain ⟨g, c, a1, c1, hsv, hsl, hread⟩ := R.reads hu
  have hd0 : decide ((i : Int) < 0) = false := by simp
  have hd1 : (u.sort != -1) = true := by rw [bne_iff_ne]; exact hs
  clear hs
  go_enter Tryz.func150, Tryz.ntmps150
  go_wp2_with (go_at_call 131; refine (At_ok (hA _) (i : Int) (by omega) (by omega)).mono ?_; rintro e w' ⟨rfl, f⟩; have ⟨d0, d1, d2⟩ := hread w' (((Fr.refl _ _).alloc _).trans f))
  go_ret2
  exact ⟨rfl, ((Fr.refl _ _).alloc _).trans f⟩

set_option maxRecDepth 100000 in
set_option maxHeartbeats 400000 in
theorem rarray_ok {w : World} {B b : Nat} {lim used : Int} {sv : Value} {rk rn : Int} {U : List RT} (R : RRep w B b lim used sv rk rn U) (i : Nat) (u : RT) (hu : U[i]? = some u) (hs : u.sort = -1) :
    Calls Tryz.prog 150 #[.pointer (some ⟨b, 0, none⟩), .agg #[.int .i64 2, .int .i64 (i : Int)]] w fun e w' => e = .returned (.tuple #[.int .i64 (i : Int), .int .i64 0]) ∧ Fr [] w w' := by
  have hA : ∀ o, RRep (w.alloc o) B b lim used sv rk rn U := fun o => R.frame (S := []) ((Fr.refl _ _).alloc o) (by simp)
  have hi : i < U.length := (List.getElem?_eq_some_iff.1 hu).1
  obtain ⟨g, c, a1, c1, hsv, hsl, hread⟩ := R.reads hu
  have hd0 : decide ((i : Int) < 0) = false := by simp
  rw [hs] at hread
  clear hs
  go_enter Tryz.func150, Tryz.ntmps150
  go_wp2_with (go_at_call 131; refine (At_ok (hA _) (i : Int) (by omega) (by omega)).mono ?_; rintro e w' ⟨rfl, f⟩; have ⟨d0, d1, d2⟩ := hread w' (((Fr.refl _ _).alloc _).trans f))
  go_ret2
  exact ⟨rfl, ((Fr.refl _ _).alloc _).trans f⟩

/-- Sorts from -1 on. -/
def Sorts (U : List RT) : Prop := ∀ u, u ∈ U → -1 ≤ u.sort

theorem rarrTrap_at {U : List RT} {i : Nat} {u : RT} (hu : U[i]? = some u) : arrTrap (U.map RT.abs) 2 (i : Int) = if u.sort < 0 then 0 else 6 := by
  unfold arrTrap
  rw [if_neg (by omega), if_pos (by omega), Int.toNat_natCast, List.getElem?_map, hu]
  rfl

theorem relemTrap_at {U : List RT} {i : Nat} {u : RT} (hu : U[i]? = some u) (ak an : Int) : elemTrap (U.map RT.abs) 2 (i : Int) ak an = if u.sort < 0 then (if ak = 0 then (if 0 ≤ an ∧ an < u.cells.length then 0 else 2) else 6) else 6 := by
  unfold elemTrap
  rw [if_neg (by omega), if_pos (by omega), Int.toNat_natCast, List.getElem?_map, hu]
  rfl

theorem rarrTrap_bad {U : List RT} {k n : Int} (h : badN U.length k n) : arrTrap (U.map RT.abs) k n = trapOf k := by
  unfold arrTrap trapOf
  split
  · rfl
  · split
    · have : (U.map RT.abs)[n.toNat]? = none := by
        rw [List.getElem?_eq_none_iff, List.length_map]
        unfold badN at h
        omega
      rw [this]
    · rfl

theorem relemTrap_bad {U : List RT} {k n : Int} (h : badN U.length k n) (ak an : Int) : elemTrap (U.map RT.abs) k n ak an = trapOf k := by
  unfold elemTrap trapOf
  split
  · rfl
  · split
    · have : (U.map RT.abs)[n.toNat]? = none := by
        rw [List.getElem?_eq_none_iff, List.length_map]
        unfold badN at h
        omega
      rw [this]
    · rfl

theorem rarray_no {w : World} {B b : Nat} {lim used : Int} {sv : Value} {rk rn : Int} {U : List RT} (R : RRep w B b lim used sv rk rn U) (k n : Int) (h : arrTrap (U.map RT.abs) k n ≠ 0) :
    Calls Tryz.prog 150 #[.pointer (some ⟨b, 0, none⟩), .agg #[.int .i64 k, .int .i64 n]] w fun e w' => e = .returned (.tuple #[.int .i64 0, .int .i64 (arrTrap (U.map RT.abs) k n)]) ∧ Fr [] w w' := by
  rcases badN_or U k n with hb | ⟨i, u, rfl, rfl, hu⟩
  · rw [rarrTrap_bad hb]
    unfold trapOf
    by_cases h1 : k = 1
    · subst h1
      rw [if_pos rfl]
      exact rarray_null n
    · rw [if_neg h1]
      exact rarray_bad R k n h1 hb
  · rw [rarrTrap_at hu] at h ⊢
    split at h
    · omega
    · rename_i hc
      rw [if_neg hc]
      exact rarray_rec R i u hu (by omega)

set_option maxRecDepth 100000 in
set_option maxHeartbeats 400000 in
theorem relem_arr {w : World} {B b : Nat} {lim used : Int} {sv : Value} {rk rn : Int} {U : List RT} (R : RRep w B b lim used sv rk rn U) (k n ak an : Int) (h : arrTrap (U.map RT.abs) k n ≠ 0) :
    Calls Tryz.prog 149 #[.pointer (some ⟨b, 0, none⟩), .agg #[.int .i64 k, .int .i64 n], .agg #[.int .i64 ak, .int .i64 an]] w fun e w' => e = .returned (.tuple #[.int .i64 0, .int .i64 (arrTrap (U.map RT.abs) k n)]) ∧ Fr [] w w' := by
  have hA : ∀ o o', RRep ((w.alloc o).alloc o') B b lim used sv rk rn U := fun o o' => R.frame (S := []) (((Fr.refl _ _).alloc o).alloc o') (by simp)
  have hF := fun o o' => rarray_no (hA o o') k n h
  generalize arrTrap (U.map RT.abs) k n = X at *
  have hX : (X == 0) = false := by simpa using h
  go_enter Tryz.func149, Tryz.ntmps149
  go_wp2_with fail
  refine (hF _ _).mono ?_
  rintro e w' ⟨rfl, hfr⟩
  clear hF hA
  go_wp2
  go_quiet (fail)
  go_wp2
  go_ret2
  exact ⟨rfl, Fr.drewN ((((Fr.refl _ _).alloc _).alloc _).trans hfr) _⟩

set_option maxRecDepth 100000 in
set_option maxHeartbeats 400000 in
theorem relem_kind {w : World} {B b : Nat} {lim used : Int} {sv : Value} {rk rn : Int} {U : List RT} (R : RRep w B b lim used sv rk rn U) (i : Nat) (u : RT) (hu : U[i]? = some u) (hs : u.sort = -1) (ak an : Int) (hk : ak ≠ 0) :
    Calls Tryz.prog 149 #[.pointer (some ⟨b, 0, none⟩), .agg #[.int .i64 2, .int .i64 (i : Int)], .agg #[.int .i64 ak, .int .i64 an]] w fun e w' => (∃ z, e = .returned (.tuple #[.int .i64 z, .int .i64 6])) ∧ Fr [] w w' := by
  have hA : ∀ o o', RRep ((w.alloc o).alloc o') B b lim used sv rk rn U := fun o o' => R.frame (S := []) (((Fr.refl _ _).alloc o).alloc o') (by simp)
  have hk2 : (ak != 0) = true := by rw [bne_iff_ne]; exact hk
  go_enter Tryz.func149, Tryz.ntmps149
  go_wp2_with fail
  refine (rarray_ok (hA _ _) i u hu hs).mono ?_
  rintro e w' ⟨rfl, hfr⟩
  obtain ⟨hl0, hl1, hlf⟩ := res30 ((hfr.block (w.heap.size + 1) (by simp) (by simp)).trans (blk2 w _ _))
  clear hA hs hk
  go_wp2
  go_quiet (fail)
  go_wp2
  go_ret2
  exact ⟨⟨_, rfl⟩, Fr.drewN ((((Fr.refl _ _).alloc _).alloc _).trans hfr) _⟩

set_option maxRecDepth 100000 in
set_option maxHeartbeats 400000 in
theorem relem_neg {w : World} {B b : Nat} {lim used : Int} {sv : Value} {rk rn : Int} {U : List RT} (R : RRep w B b lim used sv rk rn U) (i : Nat) (u : RT) (hu : U[i]? = some u) (hs : u.sort = -1) (an : Int) (h : an < 0) :
    Calls Tryz.prog 149 #[.pointer (some ⟨b, 0, none⟩), .agg #[.int .i64 2, .int .i64 (i : Int)], .agg #[.int .i64 0, .int .i64 an]] w fun e w' => e = .returned (.tuple #[.int .i64 (i : Int), .int .i64 2]) ∧ Fr [] w w' := by
  have hA : ∀ o o', RRep ((w.alloc o).alloc o') B b lim used sv rk rn U := fun o o' => R.frame (S := []) (((Fr.refl _ _).alloc o).alloc o') (by simp)
  have hi : i < U.length := (List.getElem?_eq_some_iff.1 hu).1
  have hii : (i : Int) < (U.length : Int) := by omega
  obtain ⟨g, c, a1, c1, hsv, hsl, hread⟩ := R.reads hu
  have hd : decide (an < 0) = true := by simpa using h
  go_enter Tryz.func149, Tryz.ntmps149
  go_wp2_with fail
  refine (rarray_ok (hA _ _) i u hu hs).mono ?_
  rintro e w' ⟨rfl, hfr⟩
  have hFr := (((Fr.refl [] w).alloc _).alloc _).trans hfr
  obtain ⟨hl0, hl1, hlf⟩ := res30 ((hfr.block (w.heap.size + 1) (by simp) (by simp)).trans (blk2 w _ _))
  obtain ⟨d0, d1, d2⟩ := hread w' hFr
  clear hA hs hread hfr
  go_wp2
  go_quiet (fail)
  go_wp2
  go_ret2
  exact ⟨rfl, Fr.drewN hFr _⟩

set_option maxRecDepth 100000 in
set_option maxHeartbeats 400000 in
theorem relem_big {w : World} {B b : Nat} {lim used : Int} {sv : Value} {rk rn : Int} {U : List RT} (R : RRep w B b lim used sv rk rn U) (i : Nat) (u : RT) (hu : U[i]? = some u) (hs : u.sort = -1) (an : Int) (h0 : 0 ≤ an) (h : (u.cells.length : Int) ≤ an) :
    Calls Tryz.prog 149 #[.pointer (some ⟨b, 0, none⟩), .agg #[.int .i64 2, .int .i64 (i : Int)], .agg #[.int .i64 0, .int .i64 an]] w fun e w' => e = .returned (.tuple #[.int .i64 (i : Int), .int .i64 2]) ∧ Fr [] w w' := by
  have hA : ∀ o o', RRep ((w.alloc o).alloc o') B b lim used sv rk rn U := fun o o' => R.frame (S := []) (((Fr.refl _ _).alloc o).alloc o') (by simp)
  have hi : i < U.length := (List.getElem?_eq_some_iff.1 hu).1
  have hii : (i : Int) < (U.length : Int) := by omega
  obtain ⟨g, c, a1, c1, hsv, hsl, hread⟩ := R.reads hu
  have hd : decide (an < 0) = false := by simpa using h0
  have hd2 : decide ((u.cells.length : Int) ≤ an) = true := by simpa using h
  go_enter Tryz.func149, Tryz.ntmps149
  go_wp2_with fail
  refine (rarray_ok (hA _ _) i u hu hs).mono ?_
  rintro e w' ⟨rfl, hfr⟩
  have hFr := (((Fr.refl [] w).alloc _).alloc _).trans hfr
  obtain ⟨hl0, hl1, hlf⟩ := res30 ((hfr.block (w.heap.size + 1) (by simp) (by simp)).trans (blk2 w _ _))
  obtain ⟨d0, d1, d2⟩ := hread w' hFr
  clear hA hs hread hfr
  go_wp2
  go_quiet (fail)
  go_wp2
  go_ret2
  exact ⟨rfl, Fr.drewN hFr _⟩

set_option maxRecDepth 100000 in
set_option maxHeartbeats 400000 in
theorem relem_ok {w : World} {B b : Nat} {lim used : Int} {sv : Value} {rk rn : Int} {U : List RT} (R : RRep w B b lim used sv rk rn U) (i : Nat) (u : RT) (hu : U[i]? = some u) (hs : u.sort = -1) (an : Int) (h0 : 0 ≤ an) (h : an < (u.cells.length : Int)) :
    Calls Tryz.prog 149 #[.pointer (some ⟨b, 0, none⟩), .agg #[.int .i64 2, .int .i64 (i : Int)], .agg #[.int .i64 0, .int .i64 an]] w fun e w' => e = .returned (.tuple #[.int .i64 (i : Int), .int .i64 0]) ∧ Fr [] w w' := by
  have hA : ∀ o o', RRep ((w.alloc o).alloc o') B b lim used sv rk rn U := fun o o' => R.frame (S := []) (((Fr.refl _ _).alloc o).alloc o') (by simp)
  have hi : i < U.length := (List.getElem?_eq_some_iff.1 hu).1
  have hii : (i : Int) < (U.length : Int) := by omega
  obtain ⟨g, c, a1, c1, hsv, hsl, hread⟩ := R.reads hu
  have hd : decide (an < 0) = false := by simpa using h0
  have hd2 : decide ((u.cells.length : Int) ≤ an) = false := by simpa using h
  go_enter Tryz.func149, Tryz.ntmps149
  go_wp2_with fail
  refine (rarray_ok (hA _ _) i u hu hs).mono ?_
  rintro e w' ⟨rfl, hfr⟩
  have hFr := (((Fr.refl [] w).alloc _).alloc _).trans hfr
  obtain ⟨hl0, hl1, hlf⟩ := res30 ((hfr.block (w.heap.size + 1) (by simp) (by simp)).trans (blk2 w _ _))
  obtain ⟨d0, d1, d2⟩ := hread w' hFr
  clear hA hs hread hfr
  go_wp2
  go_quiet (fail)
  go_wp2
  go_ret2
  exact ⟨rfl, Fr.drewN hFr _⟩

theorem relem_no {w : World} {B b : Nat} {lim used : Int} {sv : Value} {rk rn : Int} {U : List RT} (R : RRep w B b lim used sv rk rn U) (hS : Sorts U) (k n ak an : Int) (h : elemTrap (U.map RT.abs) k n ak an ≠ 0) :
    Calls Tryz.prog 149 #[.pointer (some ⟨b, 0, none⟩), .agg #[.int .i64 k, .int .i64 n], .agg #[.int .i64 ak, .int .i64 an]] w fun e w' => (∃ z, e = .returned (.tuple #[.int .i64 z, .int .i64 (elemTrap (U.map RT.abs) k n ak an)])) ∧ Fr [] w w' := by
  have weak : ∀ (z t : Int) {e : Ending} {w' : World}, (e = .returned (.tuple #[.int .i64 z, .int .i64 t]) ∧ Fr [] w w') → (∃ z, e = .returned (.tuple #[.int .i64 z, .int .i64 t])) ∧ Fr [] w w' := fun z t _ _ h => ⟨⟨z, h.1⟩, h.2⟩
  rcases badN_or U k n with hb | ⟨i, u, rfl, rfl, hu⟩
  · rw [relemTrap_bad hb, ← rarrTrap_bad hb]
    exact (relem_arr R k n ak an (by rw [rarrTrap_bad hb]; unfold trapOf; split <;> omega)).mono fun e w' h => weak _ _ h
  · rw [relemTrap_at hu] at h ⊢
    by_cases h1 : u.sort < 0
    · have h1' : u.sort = -1 := by have := hS u (List.mem_of_getElem? hu); omega
      rw [if_pos h1] at h ⊢
      by_cases h2 : ak = 0
      · subst h2
        rw [if_pos rfl] at h ⊢
        split at h
        · omega
        · rename_i hc
          rw [if_neg hc]
          by_cases h3 : an < 0
          · exact (relem_neg R i u hu h1' an h3).mono fun e w' h => weak _ _ h
          · exact (relem_big R i u hu h1' an (by omega) (by omega)).mono fun e w' h => weak _ _ h
      · rw [if_neg h2]
        exact relem_kind R i u hu h1' ak an h2
    · rw [if_neg h1]
      have e := relem_arr R 2 (i : Int) ak an (by rw [rarrTrap_at hu, if_neg h1]; omega)
      rw [rarrTrap_at hu, if_neg h1] at e
      exact e.mono fun e w' h => weak _ _ h
end Go.Proofs.YtkjkpkmmojchiaaGreatDoor
