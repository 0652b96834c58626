/-
  Where a record's cell lies on a heap that New made, or the trap, for every value, sort and place; no condition.
-/
import Derived.Test.YtkjkpkmmojchiaaGreatDoorHeapG
namespace Go.Proofs.YtkjkpkmmojchiaaGreatDoor
open Go.RowKit

/-- A value that names no thing. -/
def bad (T : List Thing) (k n : Int) : Prop := ¬ (k = 2 ∧ 0 ≤ n ∧ n < T.length)

/-- The trap of a value that names no thing. -/
def trapOf (k : Int) : Int := if k = 1 then 3 else 6
theorem trapOf_ne (k : Int) : (trapOf k != 0) = true := by unfold trapOf; split <;> rfl
theorem trapOf_ne' (k : Int) : (trapOf k == 0) = false := by unfold trapOf; split <;> rfl

theorem find_bad {w : World} {B b : Nat} {lim used : Int} {sv : Value} {rk rn : Int} {T : List Thing} (R : Rep w B b lim used sv rk rn T) (k n : Int) (h : bad T k n) :
    Calls Tryz.prog 82 #[.pointer (some ⟨b, 0, none⟩), .agg #[.int .i64 k, .int .i64 n]] w fun e w' => e = .returned (.tuple #[.nilIface, .int .i64 (trapOf k)]) ∧ Fr [] w w' := by
  unfold trapOf
  by_cases h1 : k = 1
  · subst h1
    rw [if_pos rfl]
    exact find_null R.hb n
  · rw [if_neg h1]
    by_cases h2 : k = 2
    · subst h2
      by_cases h3 : n < 0
      · exact find_neg R.hb n h3
      · exact find_big R n (by omega) (by unfold bad at h; omega)
    · exact find_kind R.hb k n (by simpa using h1) (by simpa using h2)

set_option maxHeartbeats 400000 in
theorem field_bad {w : World} {B b : Nat} {lim used : Int} {sv : Value} {rk rn : Int} {T : List Thing} (R : Rep w B b lim used sv rk rn T) (k n : Int) (h : bad T k n) (r a : Int) :
    Calls Tryz.prog 158 #[.pointer (some ⟨b, 0, none⟩), .agg #[.int .i64 k, .int .i64 n], .int .i64 r, .int .i64 a] w fun e w' => e = .returned (.tuple #[.pointer none, .int .i64 (trapOf k)]) ∧ Fr [] w w' := by
  have hA : ∀ o, Rep (w.alloc o) B b lim used sv rk rn T := fun o => R.frame (S := []) ((Fr.refl _ _).alloc o) (by simp)
  have ht := trapOf_ne k
  generalize hX : trapOf k = X at ht ⊢
  have HX : Hid (trapOf k = X) := hX
  clear hX
  go_enter Tryz.func158, Tryz.ntmps158
  go_wp2_with fail
  refine (find_bad (hA _) k n h).mono ?_
  rw [HX.out]
  rintro e w' ⟨rfl, hfr⟩
  go_wp2
  go_ret2
  exact ⟨rfl, ((Fr.refl _ _).alloc _).trans hfr⟩

theorem meth85 (tb : Nat) (w : World) : (method 339 165 (.pointer (some ⟨tb, 0, none⟩)) "swath/heap.view").run Tryz.prog w = .ok (195, .pointer (some ⟨tb, 0, none⟩)) w := by kernel_rfl
theorem meth90 (tb : Nat) (w : World) : (method 339 212 (.pointer (some ⟨tb, 0, none⟩)) "swath/heap.view").run Tryz.prog w = .ok (195, .pointer (some ⟨tb, 0, none⟩)) w := by kernel_rfl

set_option maxHeartbeats 400000 in
theorem field_neg {w : World} {B b : Nat} {lim used : Int} {sv : Value} {rk rn : Int} {T : List Thing} (R : Rep w B b lim used sv rk rn T) (i : Nat) (t : Thing) (ht : T[i]? = some t) (r a : Int) (hr : r < 0) :
    Calls Tryz.prog 158 #[.pointer (some ⟨b, 0, none⟩), .agg #[.int .i64 2, .int .i64 (i : Int)], .int .i64 r, .int .i64 a] w fun e w' => e = .returned (.tuple #[.pointer none, .int .i64 6]) ∧ Fr [] w w' := by
  have hA : ∀ o, Rep (w.alloc o) B b lim used sv rk rn T := fun o => R.frame (S := []) ((Fr.refl _ _).alloc o) (by simp)
  have hd : decide (r < 0) = true := by simpa using hr
  go_enter Tryz.func158, Tryz.ntmps158
  go_wp2_with fail
  refine (find_ok (hA _) i t ht).mono ?_
  rintro e w' ⟨rfl, hfr⟩
  go_wp2
  go_ret2
  exact ⟨rfl, ((Fr.refl _ _).alloc _).trans hfr⟩

theorem TAt.recd {w : World} {t : Thing} (h : TAt w t) (hs : 0 ≤ t.sort) : w.cell? ⟨t.tb, 0, none⟩ = some t.sl ∧ w.cell? ⟨t.tb, 1, none⟩ = some (.int .i64 t.sort) := by
  have h1 := h.own
  unfold Thing.body at h1
  rw [if_neg (by omega)] at h1
  constructor <;> simp [World.cell?, h1]

theorem TAt.arr {w : World} {t : Thing} (h : TAt w t) (hs : t.sort < 0) : w.cell? ⟨t.tb, 0, none⟩ = some t.sl := by
  have h1 := h.own
  unfold Thing.body at h1
  rw [if_pos hs] at h1
  simp [World.cell?, h1]

theorem TAt.later {w w' : World} {t : Thing} (h : TAt w t) (f : Fr [] w w') : TAt w' t := h.fr f (by simp) (by simp)

theorem val_rec {t : Thing} (h : 0 ≤ t.sort) : t.val = .iface 165 (.pointer (some ⟨t.tb, 0, none⟩)) := by unfold Thing.val; rw [if_neg (by omega)]
theorem val_arr {t : Thing} (h : t.sort < 0) : t.val = .iface 212 (.pointer (some ⟨t.tb, 0, none⟩)) := by unfold Thing.val; rw [if_pos h]

set_option maxHeartbeats 400000 in
theorem field_isarr {w : World} {B b : Nat} {lim used : Int} {sv : Value} {rk rn : Int} {T : List Thing} (R : Rep w B b lim used sv rk rn T) (i : Nat) (t : Thing) (ht : T[i]? = some t) (r a : Int) (hr : 0 ≤ r) (hs : t.sort < 0) :
    Calls Tryz.prog 158 #[.pointer (some ⟨b, 0, none⟩), .agg #[.int .i64 2, .int .i64 (i : Int)], .int .i64 r, .int .i64 a] w fun e w' => e = .returned (.tuple #[.pointer none, .int .i64 6]) ∧ Fr [] w w' := by
  have hA : ∀ o, Rep (w.alloc o) B b lim used sv rk rn T := fun o => R.frame (S := []) ((Fr.refl _ _).alloc o) (by simp)
  have hd : decide (r < 0) = false := by simpa using hr
  have hd2 : ((-1 : Int) != r) = true := by rw [bne_iff_ne]; omega
  go_enter Tryz.func158, Tryz.ntmps158
  go_wp2_with fail
  refine (find_ok (hA _) i t ht).mono ?_
  rintro e w' ⟨rfl, hfr⟩
  rw [val_arr hs]
  go_wp2_with (first | (go_at_call 83; refine (sort_arr _ _).mono ?_; rintro e w' ⟨rfl, rfl⟩))
  go_ret2
  exact ⟨rfl, ((Fr.refl _ _).alloc _).trans hfr⟩

set_option maxHeartbeats 400000 in
theorem field_other {w : World} {B b : Nat} {lim used : Int} {sv : Value} {rk rn : Int} {T : List Thing} (R : Rep w B b lim used sv rk rn T) (i : Nat) (t : Thing) (ht : T[i]? = some t) (r a : Int) (hr : 0 ≤ r) (hs : 0 ≤ t.sort) (hne : t.sort ≠ r) :
    Calls Tryz.prog 158 #[.pointer (some ⟨b, 0, none⟩), .agg #[.int .i64 2, .int .i64 (i : Int)], .int .i64 r, .int .i64 a] w fun e w' => e = .returned (.tuple #[.pointer none, .int .i64 6]) ∧ Fr [] w w' := by
  have hA : ∀ o, Rep (w.alloc o) B b lim used sv rk rn T := fun o => R.frame (S := []) ((Fr.refl _ _).alloc o) (by simp)
  have hd : decide (r < 0) = false := by simpa using hr
  have hd2 : (t.sort != r) = true := by rw [bne_iff_ne]; exact hne
  have hTA := R.th t (List.mem_of_getElem? ht)
  go_enter Tryz.func158, Tryz.ntmps158
  go_wp2_with fail
  refine (find_ok (hA _) i t ht).mono ?_
  rintro e w' ⟨rfl, hfr⟩
  have h1 := ((hTA.later ((Fr.refl _ _).alloc _)).later hfr).recd hs
  rw [val_rec hs]
  go_wp2_with (first | (go_at_call 83; refine (sort_rec _ _ _ h1.2).mono ?_; rintro e w' ⟨rfl, rfl⟩))
  go_ret2
  exact ⟨rfl, ((Fr.refl _ _).alloc _).trans hfr⟩

set_option maxHeartbeats 400000 in
theorem field_out {w : World} {B b : Nat} {lim used : Int} {sv : Value} {rk rn : Int} {T : List Thing} (R : Rep w B b lim used sv rk rn T) (i : Nat) (t : Thing) (ht : T[i]? = some t) (a : Int) (hs : 0 ≤ t.sort) (ha : a < 0) :
    Calls Tryz.prog 158 #[.pointer (some ⟨b, 0, none⟩), .agg #[.int .i64 2, .int .i64 (i : Int)], .int .i64 t.sort, .int .i64 a] w fun e w' => e = .returned (.tuple #[.pointer none, .int .i64 6]) ∧ Fr [] w w' := by
  have hA : ∀ o, Rep (w.alloc o) B b lim used sv rk rn T := fun o => R.frame (S := []) ((Fr.refl _ _).alloc o) (by simp)
  have hd : decide (t.sort < 0) = false := by simpa using hs
  have hd3 : decide (a < 0) = true := by simpa using ha
  have hTA := R.th t (List.mem_of_getElem? ht)
  have hm := meth85 t.tb
  go_enter Tryz.func158, Tryz.ntmps158
  go_wp2_with fail
  refine (find_ok (hA _) i t ht).mono ?_
  rintro e w' ⟨rfl, hfr⟩
  have h1 := ((hTA.later ((Fr.refl _ _).alloc _)).later hfr).recd hs
  rw [val_rec hs]
  go_wp2_with (first | (go_at_call 83; refine (sort_rec _ _ _ h1.2).mono ?_; rintro e w' ⟨rfl, rfl⟩) | (go_at_call 195; refine (view_any _ _ _ _ h1.1).mono ?_; rintro e w' ⟨rfl, rfl⟩))
  go_ret2
  exact ⟨rfl, ((Fr.refl _ _).alloc _).trans hfr⟩
set_option maxHeartbeats 400000 in
theorem field_out2 {w : World} {B b : Nat} {lim used : Int} {sv : Value} {rk rn : Int} {T : List Thing} (R : Rep w B b lim used sv rk rn T) (i : Nat) (t : Thing) (ht : T[i]? = some t) (a : Int) (hs : 0 ≤ t.sort) (h0 : 0 ≤ a) (ha : (t.cells.length : Int) ≤ a) :
    Calls Tryz.prog 158 #[.pointer (some ⟨b, 0, none⟩), .agg #[.int .i64 2, .int .i64 (i : Int)], .int .i64 t.sort, .int .i64 a] w fun e w' => e = .returned (.tuple #[.pointer none, .int .i64 6]) ∧ Fr [] w w' := by
  have hA : ∀ o, Rep (w.alloc o) B b lim used sv rk rn T := fun o => R.frame (S := []) ((Fr.refl _ _).alloc o) (by simp)
  have hd : decide (t.sort < 0) = false := by simpa using hs
  have hd3 : decide (a < 0) = false := by simpa using h0
  have hd4 : decide ((t.cells.length : Int) ≤ a) = true := by simpa using ha
  have hTA := R.th t (List.mem_of_getElem? ht)
  have hm := meth85 t.tb
  go_enter Tryz.func158, Tryz.ntmps158
  go_wp2_with fail
  refine (find_ok (hA _) i t ht).mono ?_
  rintro e w' ⟨rfl, hfr⟩
  have h1 := ((hTA.later ((Fr.refl _ _).alloc _)).later hfr).recd hs
  rw [val_rec hs]
  go_wp2_with (first | (go_at_call 83; refine (sort_rec _ _ _ h1.2).mono ?_; rintro e w' ⟨rfl, rfl⟩) | (go_at_call 195; refine (view_any _ _ _ _ h1.1).mono ?_; rintro e w' ⟨rfl, rfl⟩))
  go_ret2
  exact ⟨rfl, ((Fr.refl _ _).alloc _).trans hfr⟩
set_option maxHeartbeats 400000 in
theorem field_ok {w : World} {B b : Nat} {lim used : Int} {sv : Value} {rk rn : Int} {T : List Thing} (R : Rep w B b lim used sv rk rn T) (i : Nat) (t : Thing) (ht : T[i]? = some t) (a : Nat) (hs : 0 ≤ t.sort) (ha : a < t.cells.length) :
    Calls Tryz.prog 158 #[.pointer (some ⟨b, 0, none⟩), .agg #[.int .i64 2, .int .i64 (i : Int)], .int .i64 t.sort, .int .i64 (a : Int)] w fun e w' => e = .returned (.tuple #[.pointer (some ⟨t.rb, a * 2, none⟩), .int .i64 0]) ∧ Fr [] w w' := by
  have hA : ∀ o, Rep (w.alloc o) B b lim used sv rk rn T := fun o => R.frame (S := []) ((Fr.refl _ _).alloc o) (by simp)
  have hd : decide (t.sort < 0) = false := by simpa using hs
  have hd3 : decide ((a : Int) < 0) = false := by simp
  have hd4 : decide ((t.cells.length : Int) ≤ (a : Int)) = false := by simp; omega
  have hTA := R.th t (List.mem_of_getElem? ht)
  have hm := meth85 t.tb
  go_enter Tryz.func158, Tryz.ntmps158
  go_wp2_with fail
  refine (find_ok (hA _) i t ht).mono ?_
  rintro e w' ⟨rfl, hfr⟩
  have h1 := ((hTA.later ((Fr.refl _ _).alloc _)).later hfr).recd hs
  rw [val_rec hs]
  go_wp2_with (first | (go_at_call 83; refine (sort_rec _ _ _ h1.2).mono ?_; rintro e w' ⟨rfl, rfl⟩) | (go_at_call 195; refine (view_any _ _ _ _ h1.1).mono ?_; rintro e w' ⟨rfl, rfl⟩))
  go_ret2
  exact ⟨rfl, ((Fr.refl _ _).alloc _).trans hfr⟩
/-- What a thing is, wherever it lies. -/
def Thing.abs (t : Thing) : Int × List (Int × Int) := (t.sort, t.cells)

/-- The trap of a record's cell. -/
def fieldTrap (O : List (Int × List (Int × Int))) (k n r a : Int) : Int :=
  if k = 1 then 3 else if k = 2 ∧ 0 ≤ n then
    match O[n.toNat]? with
    | some o => if 0 ≤ r ∧ o.1 = r ∧ 0 ≤ a ∧ a < o.2.length then 0 else 6
    | none => 6
  else 6

theorem fieldTrap_zero {T : List Thing} {k n r a : Int} (h : fieldTrap (T.map Thing.abs) k n r a = 0) : ∃ (i j : Nat) (t : Thing), k = 2 ∧ n = i ∧ a = j ∧ T[i]? = some t ∧ t.sort = r ∧ 0 ≤ t.sort ∧ j < t.cells.length := by
  unfold fieldTrap at h
  split at h
  · omega
  · split at h
    · rename_i h2
      split at h
      · rename_i o ho
        split at h
        · rename_i h3
          rw [List.getElem?_map] at ho
          cases hT : T[n.toNat]? with
          | none => rw [hT] at ho; simp at ho
          | some t =>
            rw [hT] at ho
            simp at ho
            subst ho
            simp only [Thing.abs] at h3
            exact ⟨n.toNat, a.toNat, t, h2.1, by omega, by omega, hT, h3.2.1, by omega, by omega⟩
        · omega
      · omega
    · omega

theorem bad_or (T : List Thing) (k n : Int) : bad T k n ∨ ∃ (i : Nat) (t : Thing), k = 2 ∧ n = i ∧ T[i]? = some t := by
  by_cases h : k = 2 ∧ 0 ≤ n ∧ n < T.length
  · right
    have hi : n.toNat < T.length := by omega
    exact ⟨n.toNat, T[n.toNat], h.1, by omega, List.getElem?_eq_getElem hi⟩
  · exact .inl h

theorem fieldTrap_bad {T : List Thing} {k n : Int} (h : bad T k n) (r a : Int) : fieldTrap (T.map Thing.abs) k n r a = trapOf k := by
  unfold fieldTrap trapOf
  split
  · rfl
  · split
    · rename_i h2
      have : (T.map Thing.abs)[n.toNat]? = none := by
        rw [List.getElem?_eq_none_iff, List.length_map]
        unfold bad at h
        omega
      rw [this]
    · rfl

theorem field_no {w : World} {B b : Nat} {lim used : Int} {sv : Value} {rk rn : Int} {T : List Thing} (R : Rep w B b lim used sv rk rn T) (k n r a : Int) (h : fieldTrap (T.map Thing.abs) k n r a ≠ 0) :
    Calls Tryz.prog 158 #[.pointer (some ⟨b, 0, none⟩), .agg #[.int .i64 k, .int .i64 n], .int .i64 r, .int .i64 a] w fun e w' => e = .returned (.tuple #[.pointer none, .int .i64 (fieldTrap (T.map Thing.abs) k n r a)]) ∧ Fr [] w w' := by
  rcases bad_or T k n with hb | ⟨i, t, rfl, rfl, ht⟩
  · rw [fieldTrap_bad hb]
    exact field_bad R k n hb r a
  · have e : fieldTrap (T.map Thing.abs) 2 (i : Int) r a = if 0 ≤ r ∧ t.sort = r ∧ 0 ≤ a ∧ a < t.cells.length then 0 else 6 := by
      unfold fieldTrap
      rw [if_neg (by omega), if_pos (by omega), Int.toNat_natCast, List.getElem?_map, ht]
      rfl
    rw [e] at h ⊢
    split at h
    · omega
    · rename_i hc
      rw [if_neg hc]
      by_cases h1 : r < 0
      · exact field_neg R i t ht r a h1
      · by_cases h2 : t.sort < 0
        · exact field_isarr R i t ht r a (by omega) h2
        · by_cases h3 : t.sort = r
          · subst h3
            by_cases h4 : a < 0
            · exact field_out R i t ht a (by omega) h4
            · exact field_out2 R i t ht a (by omega) (by omega) (by omega)
          · exact field_other R i t ht r a (by omega) (by omega) h3
end Go.Proofs.YtkjkpkmmojchiaaGreatDoor
