/-
  The plain calls of a heap that New made (alive, New, Used, Charge), told of its block in memory; conditions: the limit from 0 to 10,000,000, what is taken from 0 to the limit.
-/
import Derived.Test.YtkjkpkmmojchiaaGreatDoorIrA
import Derived.WalkKit
import Derived.WalkSpells
import Derived.WalkLawsBesides
import Derived.Deep.QuietTactic
import Derived.BigQuiet
namespace Go.Proofs.YtkjkpkmmojchiaaGreatDoor
open Go.RowKit

/-- Block b is a heap that New made. -/
def HB (w : World) (b : Nat) (lim used : Int) (sv : Value) (rk rn : Int) : Prop :=
  w.heap[b]? = some (.cells #[.bool true, .int .i64 lim, .int .i64 used, sv, .int .i64 rk, .int .i64 rn] 151 (0, 0))

section
variable {w : World} {b : Nat} {lim used : Int} {sv : Value} {rk rn : Int}
theorem HB.c0 (h : HB w b lim used sv rk rn) : w.cell? ⟨b, 0, none⟩ = some (.bool true) := by simp [HB] at h; simp [World.cell?, h]
theorem HB.c1 (h : HB w b lim used sv rk rn) : w.cell? ⟨b, 1, none⟩ = some (.int .i64 lim) := by simp [HB] at h; simp [World.cell?, h]
theorem HB.c2 (h : HB w b lim used sv rk rn) : w.cell? ⟨b, 2, none⟩ = some (.int .i64 used) := by simp [HB] at h; simp [World.cell?, h]
theorem HB.c3 (h : HB w b lim used sv rk rn) : w.cell? ⟨b, 3, none⟩ = some sv := by simp [HB] at h; simp [World.cell?, h]
theorem HB.c4 (h : HB w b lim used sv rk rn) : w.cell? ⟨b, 4, none⟩ = some (.int .i64 rk) := by simp [HB] at h; simp [World.cell?, h]
theorem HB.c5 (h : HB w b lim used sv rk rn) : w.cell? ⟨b, 5, none⟩ = some (.int .i64 rn) := by simp [HB] at h; simp [World.cell?, h]
theorem HB.fz (h : HB w b lim used sv rk rn) (i : Nat) : w.frozen? ⟨b, i, none⟩ = false := by simp [HB] at h; simp [World.frozen?, h]
theorem HB.lt (h : HB w b lim used sv rk rn) : b < w.heap.size := (Array.getElem?_eq_some_iff.1 h).1
theorem HB.fr {S : List Nat} {w' : World} (h : HB w b lim used sv rk rn) (f : Fr S w w') (hb : b ∉ S) : HB w' b lim used sv rk rn := (f.block b h.lt hb).trans h
theorem HB.setUsed (h : HB w b lim used sv rk rn) (u : Int) : HB (w.setCell ⟨b, 2, none⟩ (.int .i64 u)) b lim u sv rk rn := by
  unfold HB at h ⊢
  simp [World.setCell, Array.getElem?_modify, h]
theorem HB.setThings (h : HB w b lim used sv rk rn) (s : Value) : HB (w.setCell ⟨b, 3, none⟩ s) b lim used s rk rn := by
  unfold HB at h ⊢
  simp [World.setCell, Array.getElem?_modify, h]
end

theorem alive_any (b : Nat) (w : World) (h : w.cell? ⟨b, 0, none⟩ = some (.bool true)) :
    Calls Tryz.prog 85 #[.pointer (some ⟨b, 0, none⟩)] w fun e w' => e = .returned (.bool true) ∧ w' = w := by
  go_enter Tryz.func85, Tryz.ntmps85
  go_wp2
  go_ret
  exact ⟨rfl, rfl⟩

/-- The limit that New takes. -/
def cap0 (l : Int) : Int := if l < 0 then 0 else if 10000000 < l then 10000000 else l

set_option maxHeartbeats 400000 in
theorem new_any (l : Int) (w : World) :
    Calls Tryz.prog 55 #[.int .i64 l] w fun e w' => e = .returned (.pointer (some ⟨w.heap.size, 0, none⟩)) ∧ w' = w.alloc (.cells #[.bool true, .int .i64 (cap0 l), .int .i64 0, .slice none 0 0, .int .i64 0, .int .i64 0] 151) := by
  unfold cap0
  go_enter Tryz.func55, Tryz.ntmps55
  go_wp2
  all_goals go_ret
  all_goals exact ⟨rfl, rfl⟩

set_option maxHeartbeats 400000 in
theorem used_any {b : Nat} {lim used : Int} {sv : Value} {rk rn : Int} (w : World) (h : HB w b lim used sv rk rn) :
    Calls Tryz.prog 50 #[.pointer (some ⟨b, 0, none⟩)] w fun e w' => e = .returned (.int .i64 used) ∧ w' = w := by
  have c0 := h.c0
  have c2 := h.c2
  clear h
  go_enter Tryz.func50, Tryz.ntmps50
  go_wp2
  go_ret
  exact ⟨rfl, rfl⟩

set_option maxHeartbeats 400000 in
theorem charge_no {b : Nat} {lim used : Int} {sv : Value} {rk rn : Int} (w : World) (h : HB w b lim used sv rk rn) (n : Int) (hn : 0 ≤ n) (hl : 0 ≤ lim) (hu : 0 ≤ used) (hul : used ≤ lim) (hlm : lim ≤ 10000000) (hc : lim - used < n) :
    Calls Tryz.prog 161 #[.pointer (some ⟨b, 0, none⟩), .int .i64 n] w fun e w' => e = .returned (.int .i64 5) ∧ ∃ k, w' = w.drewN k := by
  have c0 := h.c0
  have c1 := h.c1
  have c2 := h.c2
  clear h
  go_enter Tryz.func161, Tryz.ntmps161
  go_wp2
  go_quiet (fail)
  go_wp2
  go_ret
  exact ⟨rfl, _, rfl⟩

set_option maxHeartbeats 400000 in
theorem charge_yes {b : Nat} {lim used : Int} {sv : Value} {rk rn : Int} (w : World) (h : HB w b lim used sv rk rn) (n : Int) (hn : 0 ≤ n) (hl : 0 ≤ lim) (hu : 0 ≤ used) (hul : used ≤ lim) (hlm : lim ≤ 10000000) (hc : n ≤ lim - used) :
    Calls Tryz.prog 161 #[.pointer (some ⟨b, 0, none⟩), .int .i64 n] w fun e w' => e = .returned (.int .i64 0) ∧ ∃ k, w' = (w.drewN k).setCell ⟨b, 2, none⟩ (.int .i64 (used + n)) := by
  have c0 := h.c0
  have c1 := h.c1
  have c2 := h.c2
  have z2 := h.fz 2
  clear h
  go_enter Tryz.func161, Tryz.ntmps161
  go_wp2
  go_quiet (fail)
  go_wp2
  go_ret
  exact ⟨rfl, _, rfl⟩

end Go.Proofs.YtkjkpkmmojchiaaGreatDoor
