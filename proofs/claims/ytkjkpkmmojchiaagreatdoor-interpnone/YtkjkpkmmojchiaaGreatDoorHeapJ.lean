/-
  Elem, SetElem and Len on a heap that New made, for every value and place; no condition.
-/
import Derived.Test.YtkjkpkmmojchiaaGreatDoorHeapI
namespace Go.Proofs.YtkjkpkmmojchiaaGreatDoor
open Go.RowKit

/-- The trap of an array. -/
def arrTrap (O : List (Int × List (Int × Int))) (k n : Int) : Int :=
  if k = 1 then 3 else if k = 2 ∧ 0 ≤ n then
    match O[n.toNat]? with
    | some o => if o.1 < 0 then 0 else 6
    | none => 6
  else 6

/-- The trap of an array's cell. -/
def elemTrap (O : List (Int × List (Int × Int))) (k n ak an : Int) : Int :=
  if k = 1 then 3 else if k = 2 ∧ 0 ≤ n then
    match O[n.toNat]? with
    | some o => if o.1 < 0 then (if ak = 0 then (if 0 ≤ an ∧ an < o.2.length then 0 else 2) else 6) else 6
    | none => 6
  else 6

theorem arrTrap_bad {T : List Thing} {k n : Int} (h : bad T k n) : arrTrap (T.map Thing.abs) k n = trapOf k := by
  unfold arrTrap trapOf
  split
  · rfl
  · split
    · have : (T.map Thing.abs)[n.toNat]? = none := by
        rw [List.getElem?_eq_none_iff, List.length_map]
        unfold bad at h
        omega
      rw [this]
    · rfl

theorem elemTrap_bad {T : List Thing} {k n : Int} (h : bad T k n) (ak an : Int) : elemTrap (T.map Thing.abs) k n ak an = trapOf k := by
  unfold elemTrap trapOf
  split
  · rfl
  · split
    · have : (T.map Thing.abs)[n.toNat]? = none := by
        rw [List.getElem?_eq_none_iff, List.length_map]
        unfold bad at h
        omega
      rw [this]
    · rfl

theorem arrTrap_at {T : List Thing} {i : Nat} {t : Thing} (ht : T[i]? = some t) : arrTrap (T.map Thing.abs) 2 (i : Int) = if t.sort < 0 then 0 else 6 := by
  unfold arrTrap
  rw [if_neg (by omega), if_pos (by omega), Int.toNat_natCast, List.getElem?_map, ht]
  rfl

theorem elemTrap_at {T : List Thing} {i : Nat} {t : Thing} (ht : T[i]? = some t) (ak an : Int) : elemTrap (T.map Thing.abs) 2 (i : Int) ak an = if t.sort < 0 then (if ak = 0 then (if 0 ≤ an ∧ an < t.cells.length then 0 else 2) else 6) else 6 := by
  unfold elemTrap
  rw [if_neg (by omega), if_pos (by omega), Int.toNat_natCast, List.getElem?_map, ht]
  rfl

set_option maxHeartbeats 400000 in
theorem elems_bad {w : World} {B b : Nat} {lim used : Int} {sv : Value} {rk rn : Int} {T : List Thing} (R : Rep w B b lim used sv rk rn T) (k n : Int) (h : bad T k n) :
    Calls Tryz.prog 160 #[.pointer (some ⟨b, 0, none⟩), .agg #[.int .i64 k, .int .i64 n]] w fun e w' => e = .returned (.tuple #[.slice none 0 0, .int .i64 (trapOf k)]) ∧ Fr [] w w' := by
  have hA : ∀ o, Rep (w.alloc o) B b lim used sv rk rn T := fun o => R.frame (S := []) ((Fr.refl _ _).alloc o) (by simp)
  have hF := fun o => find_bad (hA o) k n h
  have ht := trapOf_ne k
  generalize trapOf k = X at *
  go_enter Tryz.func160, Tryz.ntmps160
  go_wp2_with fail
  refine (hF _).mono ?_
  rintro e w' ⟨rfl, hfr⟩
  go_wp2
  go_ret2
  exact ⟨rfl, ((Fr.refl _ _).alloc _).trans hfr⟩

set_option maxHeartbeats 400000 in
theorem elems_rec {w : World} {B b : Nat} {lim used : Int} {sv : Value} {rk rn : Int} {T : List Thing} (R : Rep w B b lim used sv rk rn T) (i : Nat) (t : Thing) (ht : T[i]? = some t) (hs : 0 ≤ t.sort) :
    Calls Tryz.prog 160 #[.pointer (some ⟨b, 0, none⟩), .agg #[.int .i64 2, .int .i64 (i : Int)]] w fun e w' => e = .returned (.tuple #[.slice none 0 0, .int .i64 6]) ∧ Fr [] w w' := by
  have hA : ∀ o, Rep (w.alloc o) B b lim used sv rk rn T := fun o => R.frame (S := []) ((Fr.refl _ _).alloc o) (by simp)
  have hTA := R.th t (List.mem_of_getElem? ht)
  have hd : decide (0 ≤ t.sort) = true := by simpa using hs
  go_enter Tryz.func160, Tryz.ntmps160
  go_wp2_with fail
  refine (find_ok (hA _) i t ht).mono ?_
  rintro e w' ⟨rfl, hfr⟩
  have h1 := ((hTA.later ((Fr.refl _ _).alloc _)).later hfr).recd hs
  rw [val_rec hs]
  go_wp2_with (first | (go_at_call 83; refine (sort_rec _ _ _ h1.2).mono ?_; rintro e w' ⟨rfl, rfl⟩))
  go_ret2
  exact ⟨rfl, ((Fr.refl _ _).alloc _).trans hfr⟩

set_option maxHeartbeats 400000 in
theorem elems_ok {w : World} {B b : Nat} {lim used : Int} {sv : Value} {rk rn : Int} {T : List Thing} (R : Rep w B b lim used sv rk rn T) (i : Nat) (t : Thing) (ht : T[i]? = some t) (hs : t.sort < 0) :
    Calls Tryz.prog 160 #[.pointer (some ⟨b, 0, none⟩), .agg #[.int .i64 2, .int .i64 (i : Int)]] w fun e w' => e = .returned (.tuple #[.slice (some ⟨t.rb, 0, none⟩) t.cells.length t.cells.length, .int .i64 0]) ∧ Fr [] w w' := by
  have hA : ∀ o, Rep (w.alloc o) B b lim used sv rk rn T := fun o => R.frame (S := []) ((Fr.refl _ _).alloc o) (by simp)
  have hTA := R.th t (List.mem_of_getElem? ht)
  have hm := meth90 t.tb
  go_enter Tryz.func160, Tryz.ntmps160
  go_wp2_with fail
  refine (find_ok (hA _) i t ht).mono ?_
  rintro e w' ⟨rfl, hfr⟩
  have h1 := ((hTA.later ((Fr.refl _ _).alloc _)).later hfr).arr hs
  rw [val_arr hs]
  go_wp2_with (first | (go_at_call 83; refine (sort_arr _ _).mono ?_; rintro e w' ⟨rfl, rfl⟩) | (go_at_call 195; refine (view_any _ _ _ _ h1).mono ?_; rintro e w' ⟨rfl, rfl⟩))
  go_ret2
  exact ⟨rfl, ((Fr.refl _ _).alloc _).trans hfr⟩

theorem elems_no {w : World} {B b : Nat} {lim used : Int} {sv : Value} {rk rn : Int} {T : List Thing} (R : Rep w B b lim used sv rk rn T) (k n : Int) (h : arrTrap (T.map Thing.abs) k n ≠ 0) :
    Calls Tryz.prog 160 #[.pointer (some ⟨b, 0, none⟩), .agg #[.int .i64 k, .int .i64 n]] w fun e w' => e = .returned (.tuple #[.slice none 0 0, .int .i64 (arrTrap (T.map Thing.abs) k n)]) ∧ Fr [] w w' := by
  rcases bad_or T k n with hb | ⟨i, t, rfl, rfl, ht⟩
  · rw [arrTrap_bad hb]
    exact elems_bad R k n hb
  · rw [arrTrap_at ht] at h ⊢
    split at h
    · omega
    · rename_i hc
      rw [if_neg hc]
      exact elems_rec R i t ht (by omega)

set_option maxHeartbeats 400000 in
theorem elem_arr {w : World} {B b : Nat} {lim used : Int} {sv : Value} {rk rn : Int} {T : List Thing} (R : Rep w B b lim used sv rk rn T) (k n ak an : Int) (h : arrTrap (T.map Thing.abs) k n ≠ 0) :
    Calls Tryz.prog 159 #[.pointer (some ⟨b, 0, none⟩), .agg #[.int .i64 k, .int .i64 n], .agg #[.int .i64 ak, .int .i64 an]] w fun e w' => e = .returned (.tuple #[.pointer none, .int .i64 (arrTrap (T.map Thing.abs) k n)]) ∧ Fr [] w w' := by
  have hA : ∀ o o', Rep ((w.alloc o).alloc o') B b lim used sv rk rn T := fun o o' => R.frame (S := []) (((Fr.refl _ _).alloc o).alloc o') (by simp)
  have hF := fun o o' => elems_no (hA o o') k n h
  generalize arrTrap (T.map Thing.abs) k n = X at *
  have hX : (X != 0) = true := by rw [bne_iff_ne]; exact h
  go_enter Tryz.func159, Tryz.ntmps159
  go_wp2_with fail
  refine (hF _ _).mono ?_
  rintro e w' ⟨rfl, hfr⟩
  clear hF hA
  go_wp2
  go_ret2
  exact ⟨rfl, (((Fr.refl _ _).alloc _).alloc _).trans hfr⟩

set_option maxHeartbeats 400000 in
theorem elem_kind {w : World} {B b : Nat} {lim used : Int} {sv : Value} {rk rn : Int} {T : List Thing} (R : Rep w B b lim used sv rk rn T) (i : Nat) (t : Thing) (ht : T[i]? = some t) (hs : t.sort < 0) (ak an : Int) (hk : ak ≠ 0) :
    Calls Tryz.prog 159 #[.pointer (some ⟨b, 0, none⟩), .agg #[.int .i64 2, .int .i64 (i : Int)], .agg #[.int .i64 ak, .int .i64 an]] w fun e w' => e = .returned (.tuple #[.pointer none, .int .i64 6]) ∧ Fr [] w w' := by
  have hA : ∀ o o', Rep ((w.alloc o).alloc o') B b lim used sv rk rn T := fun o o' => R.frame (S := []) (((Fr.refl _ _).alloc o).alloc o') (by simp)
  have hk2 : (ak != 0) = true := by rw [bne_iff_ne]; exact hk
  go_enter Tryz.func159, Tryz.ntmps159
  go_wp2_with fail
  refine (elems_ok (hA _ _) i t ht hs).mono ?_
  rintro e w' ⟨rfl, hfr⟩
  have hL : w'.heap[w.heap.size + 1]? = some (.cells #[.int .i64 ak, .int .i64 an] 33) := by
    rw [hfr.block _ (by simp) (by simp)]
    exact blk2 w _ _
  have hl0 : w'.cell? ⟨w.heap.size + 1, 0, none⟩ = some (.int .i64 ak) := by simp [World.cell?, hL]
  clear hA
  go_wp2
  go_ret2
  exact ⟨rfl, (((Fr.refl _ _).alloc _).alloc _).trans hfr⟩

set_option maxHeartbeats 400000 in
theorem elem_out {w : World} {B b : Nat} {lim used : Int} {sv : Value} {rk rn : Int} {T : List Thing} (R : Rep w B b lim used sv rk rn T) (i : Nat) (t : Thing) (ht : T[i]? = some t) (hs : t.sort < 0) (an : Int) (hk : an < 0) :
    Calls Tryz.prog 159 #[.pointer (some ⟨b, 0, none⟩), .agg #[.int .i64 2, .int .i64 (i : Int)], .agg #[.int .i64 0, .int .i64 an]] w fun e w' => e = .returned (.tuple #[.pointer none, .int .i64 2]) ∧ Fr [] w w' := by
  have hA : ∀ o o', Rep ((w.alloc o).alloc o') B b lim used sv rk rn T := fun o o' => R.frame (S := []) (((Fr.refl _ _).alloc o).alloc o') (by simp)
  have hk2 : decide (an < 0) = true := by simpa using hk
  go_enter Tryz.func159, Tryz.ntmps159
  go_wp2_with fail
  refine (elems_ok (hA _ _) i t ht hs).mono ?_
  rintro e w' ⟨rfl, hfr⟩
  have hL : w'.heap[w.heap.size + 1]? = some (.cells #[.int .i64 0, .int .i64 an] 33) := by
    rw [hfr.block _ (by simp) (by simp)]
    exact blk2 w _ _
  have hl0 : w'.cell? ⟨w.heap.size + 1, 0, none⟩ = some (.int .i64 0) := by simp [World.cell?, hL]
  have hl1 : w'.cell? ⟨w.heap.size + 1, 1, none⟩ = some (.int .i64 an) := by simp [World.cell?, hL]
  clear hA
  go_wp2
  go_ret2
  exact ⟨rfl, (((Fr.refl _ _).alloc _).alloc _).trans hfr⟩

set_option maxHeartbeats 400000 in
theorem elem_out2 {w : World} {B b : Nat} {lim used : Int} {sv : Value} {rk rn : Int} {T : List Thing} (R : Rep w B b lim used sv rk rn T) (i : Nat) (t : Thing) (ht : T[i]? = some t) (hs : t.sort < 0) (an : Int) (h0 : 0 ≤ an) (hk : (t.cells.length : Int) ≤ an) :
    Calls Tryz.prog 159 #[.pointer (some ⟨b, 0, none⟩), .agg #[.int .i64 2, .int .i64 (i : Int)], .agg #[.int .i64 0, .int .i64 an]] w fun e w' => e = .returned (.tuple #[.pointer none, .int .i64 2]) ∧ Fr [] w w' := by
  have hA : ∀ o o', Rep ((w.alloc o).alloc o') B b lim used sv rk rn T := fun o o' => R.frame (S := []) (((Fr.refl _ _).alloc o).alloc o') (by simp)
  have hk2 : decide (an < 0) = false := by simpa using h0
  have hk3 : decide ((t.cells.length : Int) ≤ an) = true := by simpa using hk
  go_enter Tryz.func159, Tryz.ntmps159
  go_wp2_with fail
  refine (elems_ok (hA _ _) i t ht hs).mono ?_
  rintro e w' ⟨rfl, hfr⟩
  have hL : w'.heap[w.heap.size + 1]? = some (.cells #[.int .i64 0, .int .i64 an] 33) := by
    rw [hfr.block _ (by simp) (by simp)]
    exact blk2 w _ _
  have hl0 : w'.cell? ⟨w.heap.size + 1, 0, none⟩ = some (.int .i64 0) := by simp [World.cell?, hL]
  have hl1 : w'.cell? ⟨w.heap.size + 1, 1, none⟩ = some (.int .i64 an) := by simp [World.cell?, hL]
  clear hA
  go_wp2
  go_ret2
  exact ⟨rfl, (((Fr.refl _ _).alloc _).alloc _).trans hfr⟩

set_option maxHeartbeats 400000 in
theorem elem_ok {w : World} {B b : Nat} {lim used : Int} {sv : Value} {rk rn : Int} {T : List Thing} (R : Rep w B b lim used sv rk rn T) (i : Nat) (t : Thing) (ht : T[i]? = some t) (hs : t.sort < 0) (a : Nat) (ha : a < t.cells.length) :
    Calls Tryz.prog 159 #[.pointer (some ⟨b, 0, none⟩), .agg #[.int .i64 2, .int .i64 (i : Int)], .agg #[.int .i64 0, .int .i64 (a : Int)]] w fun e w' => e = .returned (.tuple #[.pointer (some ⟨t.rb, a * 2, none⟩), .int .i64 0]) ∧ Fr [] w w' := by
  have hA : ∀ o o', Rep ((w.alloc o).alloc o') B b lim used sv rk rn T := fun o o' => R.frame (S := []) (((Fr.refl _ _).alloc o).alloc o') (by simp)
  have hk2 : decide ((a : Int) < 0) = false := by simp
  have hk3 : decide ((t.cells.length : Int) ≤ (a : Int)) = false := by simp; omega
  go_enter Tryz.func159, Tryz.ntmps159
  go_wp2_with fail
  refine (elems_ok (hA _ _) i t ht hs).mono ?_
  rintro e w' ⟨rfl, hfr⟩
  have hL : w'.heap[w.heap.size + 1]? = some (.cells #[.int .i64 0, .int .i64 (a : Int)] 33) := by
    rw [hfr.block _ (by simp) (by simp)]
    exact blk2 w _ _
  have hl0 : w'.cell? ⟨w.heap.size + 1, 0, none⟩ = some (.int .i64 0) := by simp [World.cell?, hL]
  have hl1 : w'.cell? ⟨w.heap.size + 1, 1, none⟩ = some (.int .i64 (a : Int)) := by simp [World.cell?, hL]
  clear hA
  go_wp2
  go_ret2
  exact ⟨rfl, (((Fr.refl _ _).alloc _).alloc _).trans hfr⟩

theorem elem_no {w : World} {B b : Nat} {lim used : Int} {sv : Value} {rk rn : Int} {T : List Thing} (R : Rep w B b lim used sv rk rn T) (k n ak an : Int) (h : elemTrap (T.map Thing.abs) k n ak an ≠ 0) :
    Calls Tryz.prog 159 #[.pointer (some ⟨b, 0, none⟩), .agg #[.int .i64 k, .int .i64 n], .agg #[.int .i64 ak, .int .i64 an]] w fun e w' => e = .returned (.tuple #[.pointer none, .int .i64 (elemTrap (T.map Thing.abs) k n ak an)]) ∧ Fr [] w w' := by
  rcases bad_or T k n with hb | ⟨i, t, rfl, rfl, ht⟩
  · rw [elemTrap_bad hb, ← arrTrap_bad hb]
    exact elem_arr R k n ak an (by rw [arrTrap_bad hb]; unfold trapOf; split <;> omega)
  · rw [elemTrap_at ht] at h ⊢
    by_cases h1 : t.sort < 0
    · rw [if_pos h1] at h ⊢
      by_cases h2 : ak = 0
      · subst h2
        rw [if_pos rfl] at h ⊢
        split at h
        · omega
        · rename_i hc
          rw [if_neg hc]
          by_cases h3 : an < 0
          · exact elem_out R i t ht h1 an h3
          · exact elem_out2 R i t ht h1 an (by omega) (by omega)
      · rw [if_neg h2]
        exact elem_kind R i t ht h1 ak an h2
    · rw [if_neg h1]
      have e := elem_arr R 2 (i : Int) ak an (by rw [arrTrap_at ht, if_neg h1]; omega)
      rw [arrTrap_at ht, if_neg h1] at e
      exact e
end Go.Proofs.YtkjkpkmmojchiaaGreatDoor
