/-
  The plain calls of a heap that New made (alive, New, Used, Charge), told of its block in memory; conditions: the limit from 0 to 10,000,000, what is taken from 0 to the limit.
-/
import Derived.Test.YtndjoklinccfjaaProg
import Derived.WalkKit
import Derived.WalkSpells
import Derived.WalkLawsBesides
import Derived.Deep.QuietTactic
import Derived.BigQuiet
namespace Go.Proofs.Ytndjoklinccfjaa
open Go.RowKit

/-- Block b is a heap that New made. -/
def HB (w : World) (b : Nat) (lim used : Int) (sv : Value) (rk rn : Int) : Prop :=
  w.heap[b]? = some (.cells #[.bool true, .int .i64 lim, .int .i64 used, sv, .int .i64 rk, .int .i64 rn] 61 (0, 0))

/-- What lay in w lies in w', but for the blocks of S. -/
structure Fr (S : List Nat) (w w' : World) : Prop where
  os : w'.os = w.os
  tape : w'.tape = w.tape
  output : w'.output = w.output
  size : w.heap.size ≤ w'.heap.size
  block : ∀ k, k < w.heap.size → k ∉ S → w'.heap[k]? = w.heap[k]?

theorem Fr.refl (S : List Nat) (w : World) : Fr S w w := ⟨rfl, rfl, rfl, Nat.le_refl _, fun _ _ _ => rfl⟩

theorem Fr.trans {S : List Nat} {a b c : World} (h : Fr S a b) (k : Fr S b c) : Fr S a c :=
  ⟨k.os.trans h.os, k.tape.trans h.tape, k.output.trans h.output, Nat.le_trans h.size k.size, fun i hi hS => (k.block i (Nat.lt_of_lt_of_le hi h.size) hS).trans (h.block i hi hS)⟩

theorem Fr.drew {S : List Nat} {a b : World} (h : Fr S a b) : Fr S a b.drew := ⟨h.os, h.tape, h.output, h.size, h.block⟩
theorem Fr.drewN {S : List Nat} {a b : World} (h : Fr S a b) (n : Nat) : Fr S a (b.drewN n) := ⟨h.os, h.tape, h.output, h.size, h.block⟩

theorem Fr.alloc {S : List Nat} {a b : World} (h : Fr S a b) (o : Obj) : Fr S a (b.alloc o) :=
  h.trans ⟨rfl, rfl, rfl, by simp, fun k hk _ => Below.heap_alloc _ _ _ hk⟩

theorem Fr.setCell {S : List Nat} {a b : World} (h : Fr S a b) {p : Addr} (hp : p.block ∈ S ∨ a.heap.size ≤ p.block) (u : Value) : Fr S a (b.setCell p u) :=
  ⟨h.os, h.tape, h.output, by simpa [World.setCell] using h.size, fun k hk hS => by
    rw [Below.heap_setCell]
    · exact h.block k hk hS
    · rintro rfl
      rcases hp with hp | hp
      · exact hS hp
      · omega⟩

theorem Fr.sub {S T : List Nat} {a b : World} (h : Fr S a b) (hT : ∀ k, k ∈ S → k ∈ T ∨ a.heap.size ≤ k) : Fr T a b :=
  ⟨h.os, h.tape, h.output, h.size, fun k hk hS => h.block k hk (fun hm => by rcases hT k hm with h1 | h1; exact hS h1; omega)⟩

theorem Fr.below {S : List Nat} {a b : World} {B : Nat} (h : Fr S a b) (hB : B ≤ a.heap.size) (hS : ∀ k, k ∈ S → B ≤ k) : Below B a b :=
  ⟨h.os, h.tape, h.output, h.size, fun k hk => h.block k (by omega) (fun hm => by have := hS k hm; omega)⟩

theorem Fr.grown {S : List Nat} {a b c : World} {row : Option Nat} (h : Fr S a b) (hg : b.grownBy c row) (hr : ∀ k, row = some k → k ∈ S ∨ a.heap.size ≤ k) : Fr S a c :=
  ⟨hg.os.trans h.os, hg.tape.trans h.tape, hg.output.trans h.output, Nat.le_trans h.size hg.size, fun k hk hS => by
    have h1 := h.size
    rw [hg.block k (by omega) (fun e => by rcases hr k e.symm with h2 | h2; exact hS h2; omega)]
    exact h.block k hk hS⟩

section
variable {w : World} {b : Nat} {lim used : Int} {sv : Value} {rk rn : Int}
theorem HB.c0 (h : HB w b lim used sv rk rn) : w.cell? ⟨b, 0, none⟩ = some (.bool true) := by simp [HB] at h; simp [World.cell?, h]
theorem HB.c1 (h : HB w b lim used sv rk rn) : w.cell? ⟨b, 1, none⟩ = some (.int .i64 lim) := by simp [HB] at h; simp [World.cell?, h]
theorem HB.c2 (h : HB w b lim used sv rk rn) : w.cell? ⟨b, 2, none⟩ = some (.int .i64 used) := by simp [HB] at h; simp [World.cell?, h]
theorem HB.c3 (h : HB w b lim used sv rk rn) : w.cell? ⟨b, 3, none⟩ = some sv := by simp [HB] at h; simp [World.cell?, h]
theorem HB.c4 (h : HB w b lim used sv rk rn) : w.cell? ⟨b, 4, none⟩ = some (.int .i64 rk) := by simp [HB] at h; simp [World.cell?, h]
theorem HB.c5 (h : HB w b lim used sv rk rn) : w.cell? ⟨b, 5, none⟩ = some (.int .i64 rn) := by simp [HB] at h; simp [World.cell?, h]
theorem HB.fz (h : HB w b lim used sv rk rn) (i : Nat) : w.frozen? ⟨b, i, none⟩ = false := by simp [HB] at h; simp [World.frozen?, h]
theorem HB.lt (h : HB w b lim used sv rk rn) : b < w.heap.size := (Array.getElem?_eq_some_iff.1 h).1
theorem HB.fr {S : List Nat} {w' : World} (h : HB w b lim used sv rk rn) (f : Fr S w w') (hb : b ∉ S) : HB w' b lim used sv rk rn := (f.block b h.lt hb).trans h
theorem HB.setUsed (h : HB w b lim used sv rk rn) (u : Int) : HB (w.setCell ⟨b, 2, none⟩ (.int .i64 u)) b lim u sv rk rn := by
  unfold HB at h ⊢
  simp [World.setCell, Array.getElem?_modify, h]
theorem HB.setThings (h : HB w b lim used sv rk rn) (s : Value) : HB (w.setCell ⟨b, 3, none⟩ s) b lim used s rk rn := by
  unfold HB at h ⊢
  simp [World.setCell, Array.getElem?_modify, h]
end

theorem alive_any (b : Nat) (w : World) (h : w.cell? ⟨b, 0, none⟩ = some (.bool true)) :
    Calls Try.prog 38 #[.pointer (some ⟨b, 0, none⟩)] w fun e w' => e = .returned (.bool true) ∧ w' = w := by
  go_enter Try.func38, Try.ntmps38
  go_wp2
  go_ret
  exact ⟨rfl, rfl⟩

/-- The limit that New takes. -/
def cap0 (l : Int) : Int := if l < 0 then 0 else if 10000000 < l then 10000000 else l

set_option maxHeartbeats 400000 in
theorem new_any (l : Int) (w : World) :
    Calls Try.prog 9 #[.int .i64 l] w fun e w' => e = .returned (.pointer (some ⟨w.heap.size, 0, none⟩)) ∧ w' = w.alloc (.cells #[.bool true, .int .i64 (cap0 l), .int .i64 0, .slice none 0 0, .int .i64 0, .int .i64 0] 61) := by
  unfold cap0
  go_enter Try.func9, Try.ntmps9
  go_wp2
  all_goals go_ret
  all_goals exact ⟨rfl, rfl⟩

set_option maxHeartbeats 400000 in
theorem used_any {b : Nat} {lim used : Int} {sv : Value} {rk rn : Int} (w : World) (h : HB w b lim used sv rk rn) :
    Calls Try.prog 12 #[.pointer (some ⟨b, 0, none⟩)] w fun e w' => e = .returned (.int .i64 used) ∧ w' = w := by
  have c0 := h.c0
  have c2 := h.c2
  clear h
  go_enter Try.func12, Try.ntmps12
  go_wp2
  go_ret
  exact ⟨rfl, rfl⟩

set_option maxHeartbeats 400000 in
theorem charge_no {b : Nat} {lim used : Int} {sv : Value} {rk rn : Int} (w : World) (h : HB w b lim used sv rk rn) (n : Int) (hn : 0 ≤ n) (hl : 0 ≤ lim) (hu : 0 ≤ used) (hul : used ≤ lim) (hlm : lim ≤ 10000000) (hc : lim - used < n) :
    Calls Try.prog 28 #[.pointer (some ⟨b, 0, none⟩), .int .i64 n] w fun e w' => e = .returned (.int .i64 5) ∧ ∃ k, w' = w.drewN k := by
  have c0 := h.c0
  have c1 := h.c1
  have c2 := h.c2
  clear h
  go_enter Try.func28, Try.ntmps28
  go_wp2
  go_quiet (fail)
  go_wp2
  go_ret
  exact ⟨rfl, _, rfl⟩

set_option maxHeartbeats 400000 in
theorem charge_yes {b : Nat} {lim used : Int} {sv : Value} {rk rn : Int} (w : World) (h : HB w b lim used sv rk rn) (n : Int) (hn : 0 ≤ n) (hl : 0 ≤ lim) (hu : 0 ≤ used) (hul : used ≤ lim) (hlm : lim ≤ 10000000) (hc : n ≤ lim - used) :
    Calls Try.prog 28 #[.pointer (some ⟨b, 0, none⟩), .int .i64 n] w fun e w' => e = .returned (.int .i64 0) ∧ ∃ k, w' = (w.drewN k).setCell ⟨b, 2, none⟩ (.int .i64 (used + n)) := by
  have c0 := h.c0
  have c1 := h.c1
  have c2 := h.c2
  have z2 := h.fz 2
  clear h
  go_enter Try.func28, Try.ntmps28
  go_wp2
  go_quiet (fail)
  go_wp2
  go_ret
  exact ⟨rfl, _, rfl⟩

end Go.Proofs.Ytndjoklinccfjaa
