/-
  Texts of the proof, in their order: MaW, MaC, MaD, MaE; conditions: as each theorem says.
-/
import Derived.Test.YtkjkpkmmojchiaaGreatDoorIrU
import Derived.Test.YtkjkpkmmojchiaaGreatDoorHeapZc
import Derived.Deep.RegionHeld3
namespace Go.Proofs.YtkjkpkmmojchiaaGreatDoor
open Go.RowKit
set_option linter.unusedVariables false
set_option linter.unusedSimpArgs false

/-- What is thrown where a run ends. -/
def thrE (en vk vn t : Int) : Ending := .panicked [{ v := .iface 75 (.agg #[.int .i64 en, .int .i64 vk, .int .i64 vn, .int .i64 t]), recovered := false }]
set_option maxRecDepth 100000 in
theorem trapped_no (w : World) : Calls Tryz.prog 146 #[.int .i64 0] w fun e w' => e = .returned (.tuple #[]) ∧ w' = w := by
  go_enter Tryz.func146, Tryz.ntmps146
  go_wp2
  go_end0
  exact ⟨rfl, rfl⟩
set_option maxRecDepth 100000 in
theorem trapped_yes (w : World) (t : Int) (ht : t ≠ 0) : Calls Tryz.prog 146 #[.int .i64 t] w fun e w' => e = thrE 1 0 0 t ∧ w' = w := by
  have h : (t != 0) = true := by simpa using ht
  unfold thrE
  go_enter Tryz.func146, Tryz.ntmps146
  go_wp2
  exact ⟨rfl, rfl, rfl⟩
/-- The world behind a value that was laid down. -/
def wrW (w : World) (rb a : Nat) (k m : Int) (fb fo : Nat) (pc : Int) : World := (((w.alloc (.cells #[.int .i64 k, .int .i64 m] 33)).drew.setCell ⟨rb, a * 2, none⟩ (.int .i64 k)).setCell ⟨rb, a * 2 + 1, none⟩ (.int .i64 m)).setCell ⟨fb, fo + 1, none⟩ (.int .i64 (pc + 1))
set_option maxRecDepth 100000 in
set_option maxHeartbeats 4000000 in
theorem written_ok (w : World) (fb fo ib io rb n cap a : Nat) (k m pc : Int) (c1 : w.cell? ⟨fb, fo + 1, none⟩ = some (.int .i64 pc)) (c2 : w.cell? ⟨fb, fo + 2, none⟩ = some (.slice (some ⟨rb, 0, none⟩) n cap)) (i1 : w.cell? ⟨ib, io + 1, none⟩ = some (.int .i64 (a : Int))) (ha : a < n) (hn : n ≤ 1000000) (r0 : ∃ u, w.cell? ⟨rb, a * 2, none⟩ = some u) (r1 : ∃ u, w.cell? ⟨rb, a * 2 + 1, none⟩ = some u) (zr : ∀ i, w.frozen? ⟨rb, i, none⟩ = false) (zf : w.frozen? ⟨fb, fo + 1, none⟩ = false) (hne : fb ≠ rb) (hni : ib ≠ rb) (hpc : 0 ≤ pc) (hpc2 : pc ≤ 1000000000000000) :
    Calls Tryz.prog 134 #[.pointer (some ⟨fb, fo, none⟩), .pointer (some ⟨ib, io, none⟩), .agg #[.int .i64 k, .int .i64 m], .int .i64 0] w fun e w' => e = .returned (.tuple #[]) ∧ w' = wrW w rb a k m fb fo pc := by
  obtain ⟨u0, r0⟩ := r0
  obtain ⟨u1, r1⟩ := r1
  have lf := World.block_lt_of_cell? w _ c1
  have li := World.block_lt_of_cell? w _ i1
  have lr := World.block_lt_of_cell? w _ r0
  simp only at lf li lr
  have F0 : Fr [] w (w.alloc (.cells #[.int .i64 k, .int .i64 m] 33)) := (Fr.refl _ _).alloc _
  have b0 := heap_alloc_new w (.cells #[.int .i64 k, .int .i64 m] 33)
  have C1 := F0.cell1 c1 (by simp)
  have C2 := F0.cell1 c2 (by simp)
  have I1 := F0.cell1 i1 (by simp)
  have R0 := F0.cell1 r0 (by simp)
  have R1 := F0.cell1 r1 (by simp)
  have ZR : ∀ i, (w.alloc (.cells #[.int .i64 k, .int .i64 m] 33)).frozen? ⟨rb, i, none⟩ = false := fun i => by
    have := zr i
    simp only [World.frozen?] at this ⊢
    rw [F0.block _ lr (by simp)]
    exact this
  have ZF : (w.alloc (.cells #[.int .i64 k, .int .i64 m] 33)).frozen? ⟨fb, fo + 1, none⟩ = false := by
    simp only [World.frozen?] at zf ⊢
    rw [F0.block _ lf (by simp)]
    exact zf
  unfold wrW
  generalize hW : w.alloc (.cells #[.int .i64 k, .int .i64 m] 33) = W at *
  have HW : Hid (w.alloc (.cells #[.int .i64 k, .int .i64 m] 33) = W) := hW
  have hz : rb ≠ w.heap.size := by omega
  have hzf : fb ≠ w.heap.size := by omega
  clear hW c1 c2 i1 r0 r1 zr zf
  have haI : (a : Int) < n := by omega
  have hnI : (n : Int) ≤ 1000000 := by omega
  have CT := trapped_no W
  have m2 : ∀ w', Fr [rb] W w' → w'.cell? ⟨fb, fo + 2, none⟩ = some (.slice (some ⟨rb, 0, none⟩) n cap) := fun w' f => f.cell1 C2 (by simpa using hne)
  have m1 : ∀ w', Fr [rb] W w' → w'.cell? ⟨fb, fo + 1, none⟩ = some (.int .i64 pc) := fun w' f => f.cell1 C1 (by simpa using hne)
  have mi : ∀ w', Fr [rb] W w' → w'.cell? ⟨ib, io + 1, none⟩ = some (.int .i64 (a : Int)) := fun w' f => f.cell1 I1 (by simpa using hni)
  have mk : ∀ w', Fr [rb] W w' → w'.cell? ⟨w.heap.size, 0, none⟩ = some (.int .i64 k) := fun w' f => f.cell1 (at_cells b0 0 rfl) (by simpa using Ne.symm hz)
  have mm : ∀ w', Fr [rb] W w' → w'.cell? ⟨w.heap.size, 1, none⟩ = some (.int .i64 m) := fun w' f => f.cell1 (at_cells b0 1 rfl) (by simpa using Ne.symm hz)
  have RF : Fr [rb] W W := Fr.refl _ _
  have HD : ∀ w' : World, Fr [rb] W w' → Fr [rb] W w'.drew := fun w' h => h.drew
  have ZD : ∀ i, W.drew.frozen? ⟨rb, i, none⟩ = false := ZR
  have HS : Fr [rb] W ((W.setCell ⟨rb, a * 2, none⟩ (.int .i64 k)).setCell ⟨rb, a * 2 + 1, none⟩ (.int .i64 m)) := (RF.setCell (.inl (by simp)) _).setCell (.inl (by simp)) _
  have D0 : W.drew.cell? ⟨rb, a * 2, none⟩ = some u0 := R0
  have D1 : W.drew.cell? ⟨rb, a * 2 + 1, none⟩ = some u1 := R1
  go_enter Tryz.func134, Tryz.ntmps134
  go_upto_region 1 with fail
  rw [HW.out]
  go_wp2_with fail
  with_reducible (refine CT.mono ?_)
  rintro e W' ⟨rfl, hw⟩
  rw [hw]
  clear hw CT
  go_wp2_with fail
  go_region_held3 (fun w' : World => Fr [rb] W w')
    (with_reducible (first | assumption | exact HD _ (by assumption) | exact HD _ HS))
    (fail)
  all_goals
    go_wp2
    go_end0
    exact ⟨rfl, rfl⟩
end Go.Proofs.YtkjkpkmmojchiaaGreatDoor

namespace Go.Proofs.YtkjkpkmmojchiaaGreatDoor
open Go.RowKit
set_option linter.unusedVariables false
set_option linter.unusedSimpArgs false

/-- Values in a row. -/
def Row (w : World) (a : Option Addr) (xs : List Value) : Prop := ∀ ad, a = some ad → ∀ j u, xs[j]? = some u → w.cell? (ad.add j) = some u
theorem Row.alloc {w : World} {a : Option Addr} {xs : List Value} (h : Row w a xs) (o : Obj) : Row (w.alloc o) a xs := fun ad ha j u hu => ((Fr.refl [] w).alloc o).cell1 (h ad ha j u hu) (by simp)
theorem own_empty (w : World) (e : TypeId) (size : Nat) : (w.alloc (.cells #[] e)).ownsRow w.heap.size e size (.slice (some ⟨w.heap.size, 0, none⟩) 0 0) 0 [] := ⟨by simp, .inr ⟨w.heap.size, 0, #[], rfl, Nat.le_refl _, heap_alloc_new w _, Nat.le_refl _, by decide, by simp, by simp⟩⟩

theorem cu54 : Tryz.prog.underlying 25 = some (.slice 2) := by kernel_rfl
theorem ci54 : (Tryz.prog.info? 2).map (fun i => (i.zero, i.size, i.bytes)) = some (some (.int .i64 0), 1, 8) := by kernel_rfl
set_option maxRecDepth 100000 in
set_option maxHeartbeats 2000000 in
theorem clone54 (w : World) (a : Option Addr) (n c : Nat) (xs : List Value) (hl : xs.length = n * 1) (hnone : a = none → n = 0 ∧ c = 0) (hx : Row w a xs) (h1 : ∀ u ∈ xs, u.oneCell' = true) (hn : n ≤ 2000000000000) :
    Calls Tryz.prog 54 #[.slice a n c] w fun e w' => ∃ v, e = .returned v ∧ w'.ownsRow w.heap.size 2 1 v n xs ∧ Fr [] w w' := by
  obtain ⟨i, hi, hz, hz1, hby⟩ := info_parts ci54
  cases a with
  | none =>
    obtain ⟨rfl, rfl⟩ := hnone rfl
    obtain rfl : xs = [] := List.eq_nil_of_length_eq_zero (by simpa using hl)
    have hq : ∀ w, (binOp .eql 25 (.slice none 0 0) (.slice none 0 0)).run Tryz.prog w = .ok (.bool true) w := fun w => by kernel_rfl
    go_enter Tryz.func54, Tryz.ntmps54
    go_wp2
    go_ret
    exact ⟨_, rfl, World.ownsRow_nil _ _ _ _, Fr.refl _ _⟩
  | some ad =>
    have hnew : ∀ o ad', some ad = some ad' → ∀ j u, xs[j]? = some u → (w.alloc o).cell? (ad'.add j) = some u := fun o => hx.alloc o
    have hE := own_empty w 2 1
    have F1 : Fr [] w (w.alloc (.cells #[] 2)) := (Fr.refl _ _).alloc _
    have HF : Hid (Fr [] w (w.alloc (.cells #[] 2))) := F1
    have hq : ∀ w, (binOp .eql 25 (.slice (some ad) n c) (.slice none 0 0)).run Tryz.prog w = .ok (.bool false) w := fun w => by kernel_rfl
    clear hx F1
    go_enter Tryz.func54, Tryz.ntmps54
    go_upto_region 3 with fail
    go_wp2_with (refine wpList_append_src _ rfl _ _ 25 rfl w.heap.size 2 i _ 1 8 cu54 hi hz hz1 hby rfl (by decide) (.slice (some ⟨w.heap.size, 0, none⟩) 0 0) 0 [] rfl hE (some ad) n c xs rfl hl (by simp) (hnew _) h1 (by unfold maxLen; omega) (by omega) (by simp) ?_; intro v' w' ho hg hk)
    go_ret
    exact ⟨_, rfl, by simpa using ho, ((HF.out.sub (T := [w.heap.size]) (by simp)).trans ((Fr.ofGrown hg).sub (fun k hk => .inl (by simpa [Value.ownBlock, eq_comm] using hk)))).sub (fun k hk => .inr (by simp at hk; omega))⟩

theorem cu114 : Tryz.prog.underlying 22 = some (.slice 87) := by kernel_rfl
theorem ci114 : (Tryz.prog.info? 87).map (fun i => (i.zero, i.size, i.bytes)) = some (some (.agg #[.string ⟨#[]⟩, .int .i64 0, .int .i64 0, .slice none 0 0]), 4, 56) := by kernel_rfl
set_option maxRecDepth 100000 in
set_option maxHeartbeats 2000000 in
theorem clone114 (w : World) (a : Option Addr) (n c : Nat) (xs : List Value) (hl : xs.length = n * 4) (hnone : a = none → n = 0 ∧ c = 0) (hx : Row w a xs) (h1 : ∀ u ∈ xs, u.oneCell' = true) (hn : n ≤ 2000000000000) :
    Calls Tryz.prog 114 #[.slice a n c] w fun e w' => ∃ v, e = .returned v ∧ w'.ownsRow w.heap.size 87 4 v n xs ∧ Fr [] w w' := by
  obtain ⟨i, hi, hz, hz1, hby⟩ := info_parts ci114
  cases a with
  | none =>
    obtain ⟨rfl, rfl⟩ := hnone rfl
    obtain rfl : xs = [] := List.eq_nil_of_length_eq_zero (by simpa using hl)
    have hq : ∀ w, (binOp .eql 22 (.slice none 0 0) (.slice none 0 0)).run Tryz.prog w = .ok (.bool true) w := fun w => by kernel_rfl
    go_enter Tryz.func114, Tryz.ntmps114
    go_wp2
    go_ret
    exact ⟨_, rfl, World.ownsRow_nil _ _ _ _, Fr.refl _ _⟩
  | some ad =>
    have hnew : ∀ o ad', some ad = some ad' → ∀ j u, xs[j]? = some u → (w.alloc o).cell? (ad'.add j) = some u := fun o => hx.alloc o
    have hE := own_empty w 87 4
    have F1 : Fr [] w (w.alloc (.cells #[] 87)) := (Fr.refl _ _).alloc _
    have HF : Hid (Fr [] w (w.alloc (.cells #[] 87))) := F1
    have hq : ∀ w, (binOp .eql 22 (.slice (some ad) n c) (.slice none 0 0)).run Tryz.prog w = .ok (.bool false) w := fun w => by kernel_rfl
    clear hx F1
    go_enter Tryz.func114, Tryz.ntmps114
    go_upto_region 3 with fail
    go_wp2_with (refine wpList_append_src _ rfl _ _ 22 rfl w.heap.size 87 i _ 4 56 cu114 hi hz hz1 hby rfl (by decide) (.slice (some ⟨w.heap.size, 0, none⟩) 0 0) 0 [] rfl hE (some ad) n c xs rfl hl (by simp) (hnew _) h1 (by unfold maxLen; omega) (by omega) (by simp) ?_; intro v' w' ho hg hk)
    go_ret
    exact ⟨_, rfl, by simpa using ho, ((HF.out.sub (T := [w.heap.size]) (by simp)).trans ((Fr.ofGrown hg).sub (fun k hk => .inl (by simpa [Value.ownBlock, eq_comm] using hk)))).sub (fun k hk => .inr (by simp at hk; omega))⟩

theorem cu130 : Tryz.prog.underlying 85 = some (.slice 80) := by kernel_rfl
theorem ci130 : (Tryz.prog.info? 80).map (fun i => (i.zero, i.size, i.bytes)) = some (some (.agg #[.int .i64 0, .int .i64 0, .int .i64 0, .int .i64 0, .int .i64 0, .slice none 0 0]), 6, 64) := by kernel_rfl
set_option maxRecDepth 100000 in
set_option maxHeartbeats 2000000 in
theorem clone130 (w : World) (a : Option Addr) (n c : Nat) (xs : List Value) (hl : xs.length = n * 6) (hnone : a = none → n = 0 ∧ c = 0) (hx : Row w a xs) (h1 : ∀ u ∈ xs, u.oneCell' = true) (hn : n ≤ 2000000000000) :
    Calls Tryz.prog 130 #[.slice a n c] w fun e w' => ∃ v, e = .returned v ∧ w'.ownsRow w.heap.size 80 6 v n xs ∧ Fr [] w w' := by
  obtain ⟨i, hi, hz, hz1, hby⟩ := info_parts ci130
  cases a with
  | none =>
    obtain ⟨rfl, rfl⟩ := hnone rfl
    obtain rfl : xs = [] := List.eq_nil_of_length_eq_zero (by simpa using hl)
    have hq : ∀ w, (binOp .eql 85 (.slice none 0 0) (.slice none 0 0)).run Tryz.prog w = .ok (.bool true) w := fun w => by kernel_rfl
    go_enter Tryz.func130, Tryz.ntmps130
    go_wp2
    go_ret
    exact ⟨_, rfl, World.ownsRow_nil _ _ _ _, Fr.refl _ _⟩
  | some ad =>
    have hnew : ∀ o ad', some ad = some ad' → ∀ j u, xs[j]? = some u → (w.alloc o).cell? (ad'.add j) = some u := fun o => hx.alloc o
    have hE := own_empty w 80 6
    have F1 : Fr [] w (w.alloc (.cells #[] 80)) := (Fr.refl _ _).alloc _
    have HF : Hid (Fr [] w (w.alloc (.cells #[] 80))) := F1
    have hq : ∀ w, (binOp .eql 85 (.slice (some ad) n c) (.slice none 0 0)).run Tryz.prog w = .ok (.bool false) w := fun w => by kernel_rfl
    clear hx F1
    go_enter Tryz.func130, Tryz.ntmps130
    go_upto_region 3 with fail
    go_wp2_with (refine wpList_append_src _ rfl _ _ 85 rfl w.heap.size 80 i _ 6 64 cu130 hi hz hz1 hby rfl (by decide) (.slice (some ⟨w.heap.size, 0, none⟩) 0 0) 0 [] rfl hE (some ad) n c xs rfl hl (by simp) (hnew _) h1 (by unfold maxLen; omega) (by omega) (by simp) ?_; intro v' w' ho hg hk)
    go_ret
    exact ⟨_, rfl, by simpa using ho, ((HF.out.sub (T := [w.heap.size]) (by simp)).trans ((Fr.ofGrown hg).sub (fun k hk => .inl (by simpa [Value.ownBlock, eq_comm] using hk)))).sub (fun k hk => .inr (by simp at hk; omega))⟩

theorem cu129 : Tryz.prog.underlying 65 = some (.slice 3) := by kernel_rfl
theorem ci129 : (Tryz.prog.info? 3).map (fun i => (i.zero, i.size, i.bytes)) = some (some (.int .i64 0), 1, 8) := by kernel_rfl
set_option maxRecDepth 100000 in
set_option maxHeartbeats 2000000 in
theorem clone129 (w : World) (a : Option Addr) (n c : Nat) (xs : List Value) (hl : xs.length = n * 1) (hnone : a = none → n = 0 ∧ c = 0) (hx : Row w a xs) (h1 : ∀ u ∈ xs, u.oneCell' = true) (hn : n ≤ 2000000000000) :
    Calls Tryz.prog 129 #[.slice a n c] w fun e w' => ∃ v, e = .returned v ∧ w'.ownsRow w.heap.size 3 1 v n xs ∧ Fr [] w w' := by
  obtain ⟨i, hi, hz, hz1, hby⟩ := info_parts ci129
  cases a with
  | none =>
    obtain ⟨rfl, rfl⟩ := hnone rfl
    obtain rfl : xs = [] := List.eq_nil_of_length_eq_zero (by simpa using hl)
    have hq : ∀ w, (binOp .eql 65 (.slice none 0 0) (.slice none 0 0)).run Tryz.prog w = .ok (.bool true) w := fun w => by kernel_rfl
    go_enter Tryz.func129, Tryz.ntmps129
    go_wp2
    go_ret
    exact ⟨_, rfl, World.ownsRow_nil _ _ _ _, Fr.refl _ _⟩
  | some ad =>
    have hnew : ∀ o ad', some ad = some ad' → ∀ j u, xs[j]? = some u → (w.alloc o).cell? (ad'.add j) = some u := fun o => hx.alloc o
    have hE := own_empty w 3 1
    have F1 : Fr [] w (w.alloc (.cells #[] 3)) := (Fr.refl _ _).alloc _
    have HF : Hid (Fr [] w (w.alloc (.cells #[] 3))) := F1
    have hq : ∀ w, (binOp .eql 65 (.slice (some ad) n c) (.slice none 0 0)).run Tryz.prog w = .ok (.bool false) w := fun w => by kernel_rfl
    clear hx F1
    go_enter Tryz.func129, Tryz.ntmps129
    go_upto_region 3 with fail
    go_wp2_with (refine wpList_append_src _ rfl _ _ 65 rfl w.heap.size 3 i _ 1 8 cu129 hi hz hz1 hby rfl (by decide) (.slice (some ⟨w.heap.size, 0, none⟩) 0 0) 0 [] rfl hE (some ad) n c xs rfl hl (by simp) (hnew _) h1 (by unfold maxLen; omega) (by omega) (by simp) ?_; intro v' w' ho hg hk)
    go_ret
    exact ⟨_, rfl, by simpa using ho, ((HF.out.sub (T := [w.heap.size]) (by simp)).trans ((Fr.ofGrown hg).sub (fun k hk => .inl (by simpa [Value.ownBlock, eq_comm] using hk)))).sub (fun k hk => .inr (by simp at hk; omega))⟩

theorem cu128 : Tryz.prog.underlying 55 = some (.slice 33) := by kernel_rfl
theorem ci128 : (Tryz.prog.info? 33).map (fun i => (i.zero, i.size, i.bytes)) = some (some (.agg #[.int .i64 0, .int .i64 0]), 2, 16) := by kernel_rfl
set_option maxRecDepth 100000 in
set_option maxHeartbeats 2000000 in
theorem clone128 (w : World) (a : Option Addr) (n c : Nat) (xs : List Value) (hl : xs.length = n * 2) (hnone : a = none → n = 0 ∧ c = 0) (hx : Row w a xs) (h1 : ∀ u ∈ xs, u.oneCell' = true) (hn : n ≤ 2000000000000) :
    Calls Tryz.prog 128 #[.slice a n c] w fun e w' => ∃ v, e = .returned v ∧ w'.ownsRow w.heap.size 33 2 v n xs ∧ Fr [] w w' := by
  obtain ⟨i, hi, hz, hz1, hby⟩ := info_parts ci128
  cases a with
  | none =>
    obtain ⟨rfl, rfl⟩ := hnone rfl
    obtain rfl : xs = [] := List.eq_nil_of_length_eq_zero (by simpa using hl)
    have hq : ∀ w, (binOp .eql 55 (.slice none 0 0) (.slice none 0 0)).run Tryz.prog w = .ok (.bool true) w := fun w => by kernel_rfl
    go_enter Tryz.func128, Tryz.ntmps128
    go_wp2
    go_ret
    exact ⟨_, rfl, World.ownsRow_nil _ _ _ _, Fr.refl _ _⟩
  | some ad =>
    have hnew : ∀ o ad', some ad = some ad' → ∀ j u, xs[j]? = some u → (w.alloc o).cell? (ad'.add j) = some u := fun o => hx.alloc o
    have hE := own_empty w 33 2
    have F1 : Fr [] w (w.alloc (.cells #[] 33)) := (Fr.refl _ _).alloc _
    have HF : Hid (Fr [] w (w.alloc (.cells #[] 33))) := F1
    have hq : ∀ w, (binOp .eql 55 (.slice (some ad) n c) (.slice none 0 0)).run Tryz.prog w = .ok (.bool false) w := fun w => by kernel_rfl
    clear hx F1
    go_enter Tryz.func128, Tryz.ntmps128
    go_upto_region 3 with fail
    go_wp2_with (refine wpList_append_src _ rfl _ _ 55 rfl w.heap.size 33 i _ 2 16 cu128 hi hz hz1 hby rfl (by decide) (.slice (some ⟨w.heap.size, 0, none⟩) 0 0) 0 [] rfl hE (some ad) n c xs rfl hl (by simp) (hnew _) h1 (by unfold maxLen; omega) (by omega) (by simp) ?_; intro v' w' ho hg hk)
    go_ret
    exact ⟨_, rfl, by simpa using ho, ((HF.out.sub (T := [w.heap.size]) (by simp)).trans ((Fr.ofGrown hg).sub (fun k hk => .inl (by simpa [Value.ownBlock, eq_comm] using hk)))).sub (fun k hk => .inr (by simp at hk; omega))⟩

theorem cu127 : Tryz.prog.underlying 58 = some (.slice 57) := by kernel_rfl
theorem ci127 : (Tryz.prog.info? 57).map (fun i => (i.zero, i.size, i.bytes)) = some (some (.agg #[.int .i64 0, .int .i64 0, .slice none 0 0, .int .i64 0]), 4, 48) := by kernel_rfl
set_option maxRecDepth 100000 in
set_option maxHeartbeats 2000000 in
theorem clone127 (w : World) (a : Option Addr) (n c : Nat) (xs : List Value) (hl : xs.length = n * 4) (hnone : a = none → n = 0 ∧ c = 0) (hx : Row w a xs) (h1 : ∀ u ∈ xs, u.oneCell' = true) (hn : n ≤ 2000000000000) :
    Calls Tryz.prog 127 #[.slice a n c] w fun e w' => ∃ v, e = .returned v ∧ w'.ownsRow w.heap.size 57 4 v n xs ∧ Fr [] w w' := by
  obtain ⟨i, hi, hz, hz1, hby⟩ := info_parts ci127
  cases a with
  | none =>
    obtain ⟨rfl, rfl⟩ := hnone rfl
    obtain rfl : xs = [] := List.eq_nil_of_length_eq_zero (by simpa using hl)
    have hq : ∀ w, (binOp .eql 58 (.slice none 0 0) (.slice none 0 0)).run Tryz.prog w = .ok (.bool true) w := fun w => by kernel_rfl
    go_enter Tryz.func127, Tryz.ntmps127
    go_wp2
    go_ret
    exact ⟨_, rfl, World.ownsRow_nil _ _ _ _, Fr.refl _ _⟩
  | some ad =>
    have hnew : ∀ o ad', some ad = some ad' → ∀ j u, xs[j]? = some u → (w.alloc o).cell? (ad'.add j) = some u := fun o => hx.alloc o
    have hE := own_empty w 57 4
    have F1 : Fr [] w (w.alloc (.cells #[] 57)) := (Fr.refl _ _).alloc _
    have HF : Hid (Fr [] w (w.alloc (.cells #[] 57))) := F1
    have hq : ∀ w, (binOp .eql 58 (.slice (some ad) n c) (.slice none 0 0)).run Tryz.prog w = .ok (.bool false) w := fun w => by kernel_rfl
    clear hx F1
    go_enter Tryz.func127, Tryz.ntmps127
    go_upto_region 3 with fail
    go_wp2_with (refine wpList_append_src _ rfl _ _ 58 rfl w.heap.size 57 i _ 4 48 cu127 hi hz hz1 hby rfl (by decide) (.slice (some ⟨w.heap.size, 0, none⟩) 0 0) 0 [] rfl hE (some ad) n c xs rfl hl (by simp) (hnew _) h1 (by unfold maxLen; omega) (by omega) (by simp) ?_; intro v' w' ho hg hk)
    go_ret
    exact ⟨_, rfl, by simpa using ho, ((HF.out.sub (T := [w.heap.size]) (by simp)).trans ((Fr.ofGrown hg).sub (fun k hk => .inl (by simpa [Value.ownBlock, eq_comm] using hk)))).sub (fun k hk => .inr (by simp at hk; omega))⟩

end Go.Proofs.YtkjkpkmmojchiaaGreatDoor

namespace Go.Proofs.YtkjkpkmmojchiaaGreatDoor
open Go.RowKit
set_option linter.unusedVariables false
set_option linter.unusedSimpArgs false

/-- An instruction, wherever its list lies. -/
structure AI where
  op : Int
  a : Int
  b : Int
  c : Int
  k : Int
  l : List Int
def In.abs (x : In) : AI := ⟨x.op, x.a, x.b, x.c, x.k, x.l⟩
/-- A list of one's own. -/
def OL (w : World) (B : Nat) (x : In) : Prop := w.ownsRow B 3 1 (.slice x.la x.l.length x.lc) x.l.length (x.l.map (Value.int .i64))
theorem OL.fr {w w' : World} {B : Nat} {x : In} {S : List Nat} (h : OL w B x) (f : Fr S w w') (hS : ∀ k, (Value.slice x.la x.l.length x.lc).ownBlock = some k → k ∉ S) : OL w' B x := own_fr h f hS
theorem OL.low {w : World} {B B' : Nat} {x : In} (h : OL w B x) (hB : B' ≤ B) : OL w B' x := own_low h hB
theorem InOk.row {B : Nat} {w : World} {x : In} (h : InOk B w x) : Row w x.la (x.l.map (Value.int .i64)) := h.k.news
theorem InOk.nn {B : Nat} {w : World} {x : In} (h : InOk B w x) : x.la = none → x.l.length = 0 ∧ x.lc = 0 := fun e => ⟨by have := h.k; rw [e] at this; rw [this.none]; rfl, h.kn e⟩
theorem OL.inok {B : Nat} {w : World} {x : In} (h : OL w B x) (hl : x.l.length ≤ 20000000000000) : InOk w.heap.size w x := by
  refine ⟨OR.kat h, hl, ?_, ?_⟩
  · obtain ⟨a, c, e, hc, _⟩ := OR.slice (K := x.l) h
    injection e with e1 e2 e3
    omega
  · intro e0
    obtain ⟨a, c, e, hc, h0⟩ := OR.slice (K := x.l) h
    injection e with e1 e2 e3
    subst e1
    subst e3
    exact h0 e0

set_option maxRecDepth 100000 in
set_option maxHeartbeats 4000000 in
theorem copiedIns_any (w : World) (B : Nat) (x : In) (hx : InOk B w x) (hl : x.l.length ≤ 2000000000000) :
    Calls Tryz.prog 73 #[.agg x.arr] w fun e w' => ∃ y : In, e = .returned (.agg y.arr) ∧ y.abs = x.abs ∧ OL w' w.heap.size y ∧ Fr [] w w' := by
  have f2 : Fr [] w ((w.alloc (.cells x.arr 80)).alloc (.cells #[.int .i64 0, .int .i64 0, .int .i64 0, .int .i64 0, .int .i64 0, .slice none 0 0] 80)) := ((Fr.refl _ _).alloc _).alloc _
  have b1 : ((w.alloc (.cells x.arr 80)).alloc (.cells #[.int .i64 0, .int .i64 0, .int .i64 0, .int .i64 0, .int .i64 0, .slice none 0 0] 80)).heap[w.heap.size]? = some (.cells x.arr 80 (0, 0)) := (((Fr.refl [] _).alloc _).block _ (by simp) (by simp)).trans (heap_alloc_new w _)
  have b2 := blk2 w (.cells x.arr 80) (.cells #[.int .i64 0, .int .i64 0, .int .i64 0, .int .i64 0, .int .i64 0, .slice none 0 0] 80)
  have X2 := hx.fr f2 (by simp)
  have hsz : ((w.alloc (.cells x.arr 80)).alloc (.cells #[.int .i64 0, .int .i64 0, .int .i64 0, .int .i64 0, .int .i64 0, .slice none 0 0] 80)).heap.size = w.heap.size + 1 + 1 := by simp [World.size_alloc]
  have HN : Hid (∀ a c, (⟨x.op, x.a, x.b, x.c, x.k, a, c, x.l⟩ : In).abs = x.abs) := fun a c => rfl
  obtain ⟨op, ia, ib, ic, ik, la, lc, l⟩ := x
  unfold In.arr at *
  simp only at *
  go_enter Tryz.func73, Tryz.ntmps73
  go_upto_region 1 with fail
  generalize (w.alloc (.cells #[.int .i64 op, .int .i64 ia, .int .i64 ib, .int .i64 ic, .int .i64 ik, .slice la l.length lc] 80)).alloc (.cells #[.int .i64 0, .int .i64 0, .int .i64 0, .int .i64 0, .int .i64 0, .slice none 0 0] 80) = W at *
  have C := clone129 W la l.length lc (l.map (Value.int .i64)) (by simp) X2.nn X2.row (by intro u hu; simp at hu; obtain ⟨k, _, rfl⟩ := hu; rfl) hl
  have c5 : W.cell? ⟨w.heap.size, 5, none⟩ = some (.slice la l.length lc) := at_cells b1 5 rfl
  have HF : Hid (Fr [] w W) := f2
  have HS : Hid (W.heap.size = w.heap.size + 1 + 1) := hsz
  clear hx f2 X2 hsz
  go_wp2_with fail
  with_reducible (refine C.mono ?_)
  rintro e X ⟨v, rfl, ho, f3⟩
  obtain ⟨va, vc, rfl, _⟩ := own_slice ho
  have B1 := (f3.block _ (Array.getElem?_eq_some_iff.1 b1).1 (by simp)).trans b1
  have B2 := (f3.block _ (Array.getElem?_eq_some_iff.1 b2).1 (by simp)).trans b2
  have HO : Hid (X.ownsRow W.heap.size 3 1 (.slice va l.length vc) l.length (l.map (Value.int .i64))) := ho
  have HFX : Hid (Fr [] w X) := HF.out.trans f3
  have c0 : X.cell? ⟨w.heap.size, 0, none⟩ = some _ := at_cells B1 0 rfl
  have c1 : X.cell? ⟨w.heap.size, 1, none⟩ = some _ := at_cells B1 1 rfl
  have c2 : X.cell? ⟨w.heap.size, 2, none⟩ = some _ := at_cells B1 2 rfl
  have c3 : X.cell? ⟨w.heap.size, 3, none⟩ = some _ := at_cells B1 3 rfl
  have c4 : X.cell? ⟨w.heap.size, 4, none⟩ = some _ := at_cells B1 4 rfl
  have c5' : X.cell? ⟨w.heap.size, 5, none⟩ = some _ := at_cells B1 5 rfl
  have z1 : ∀ i, X.frozen? ⟨w.heap.size, i, none⟩ = false := fun i => by simp [World.frozen?, B1]
  have z2 : ∀ i, X.frozen? ⟨w.heap.size + 1, i, none⟩ = false := fun i => by simp [World.frozen?, B2]
  have d0 : X.cell? ⟨w.heap.size + 1, 0, none⟩ = some _ := at_cells B2 0 rfl
  have d1 : X.cell? ⟨w.heap.size + 1, 1, none⟩ = some _ := at_cells B2 1 rfl
  have d2 : X.cell? ⟨w.heap.size + 1, 2, none⟩ = some _ := at_cells B2 2 rfl
  have d3 : X.cell? ⟨w.heap.size + 1, 3, none⟩ = some _ := at_cells B2 3 rfl
  have d4 : X.cell? ⟨w.heap.size + 1, 4, none⟩ = some _ := at_cells B2 4 rfl
  have d5 : X.cell? ⟨w.heap.size + 1, 5, none⟩ = some _ := at_cells B2 5 rfl
  have hne : w.heap.size ≠ w.heap.size + 1 := by omega
  have HB2 : Hid (X.heap[w.heap.size + 1]? = some (.cells #[.int .i64 0, .int .i64 0, .int .i64 0, .int .i64 0, .int .i64 0, .slice none 0 0] 80 (0, 0))) := B2
  have HB1 : Hid (X.heap[w.heap.size]? = some (.cells #[.int .i64 op, .int .i64 ia, .int .i64 ib, .int .i64 ic, .int .i64 ik, .slice la l.length lc] 80 (0, 0))) := B1
  clear C c5 ho f3 b1 b2 B1 B2 HF
  go_wp2
  have g1 := set_cells 5 (.slice va l.length vc) HB1.out
  have hres := set_cells 5 (.slice va l.length vc) (set_cells 4 (.int .i64 ik) (set_cells 3 (.int .i64 ic) (set_cells 2 (.int .i64 ib) (set_cells 1 (.int .i64 ia) (set_cells 0 (.int .i64 op) ((Below.heap_setCell X ⟨w.heap.size, 5, none⟩ (.slice va l.length vc) (w.heap.size + 1) (by simp)).trans HB2.out))))))
  refine bodyPost_ret (results_cell_row (by rfl) _ _ (w.heap.size + 1) 80 _ (0, 0) _ rfl hres Tryz.underlying80 rfl (by kernel_rfl)) rfl ⟨⟨op, ia, ib, ic, ik, va, vc, l⟩, rfl, rfl, ?_, ?_⟩
  · have hk : ∀ j, j < W.heap.size → (Value.slice va l.length vc).ownBlock ≠ some j := fun j hj e => by have := (HO.out.lt j e).1; omega
    have h1 := hk w.heap.size (by have := HS.out; omega)
    have h2 := hk (w.heap.size + 1) (by have := HS.out; omega)
    refine own_low (B := W.heap.size) ?_ (by have := HS.out; omega)
    exact ownsRow_setCell_other (ownsRow_setCell_other (ownsRow_setCell_other (ownsRow_setCell_other (ownsRow_setCell_other (ownsRow_setCell_other (ownsRow_setCell_other HO.out h1 _) h2 _) h2 _) h2 _) h2 _) h2 _) h2 _
  · have := HFX.out
    exact ((((((this.setCell (.inr (by simp)) _).setCell (.inr (by simp)) _).setCell (.inr (by simp)) _).setCell (.inr (by simp)) _).setCell (.inr (by simp)) _).setCell (.inr (by simp)) _).setCell (.inr (by simp)) _
end Go.Proofs.YtkjkpkmmojchiaaGreatDoor

namespace Go.Proofs.YtkjkpkmmojchiaaGreatDoor
open Go.RowKit
set_option linter.unusedVariables false
set_option linter.unusedSimpArgs false

def In.cl (x : In) : List Value := [.int .i64 x.op, .int .i64 x.a, .int .i64 x.b, .int .i64 x.c, .int .i64 x.k, .slice x.la x.l.length x.lc]
def rowI (L : List In) : List Value := L.flatMap In.cl
theorem rowI_at : ∀ {L : List In} {i : Nat} {x : In}, L[i]? = some x → ∀ j, j < 6 → (rowI L)[i * 6 + j]? = x.cl[j]?
  | [], i, x, h, j, hj => by simp at h
  | p :: L, 0, x, h, j, hj => by
    simp at h
    subst h
    unfold rowI
    rw [List.flatMap_cons, Nat.zero_mul, Nat.zero_add, List.getElem?_append_left (by simp [In.cl]; exact hj)]
  | p :: L, i + 1, x, h, j, hj => by
    have ih := rowI_at (L := L) (i := i) (x := x) (by simpa using h) j hj
    unfold rowI at ih ⊢
    rw [List.flatMap_cons, List.getElem?_append_right (by simp [In.cl]; omega), ← ih]
    congr 1
    simp [In.cl]
    omega
theorem rowI_len (L : List In) : (rowI L).length = L.length * 6 := by
  induction L with
  | nil => rfl
  | cons p L ih => unfold rowI at ih ⊢; rw [List.flatMap_cons, List.length_append, ih]; simp [In.cl]; omega
theorem rowI_set : ∀ {L : List In} {i : Nat} (y : In), rowI (L.set i y) = ((((((rowI L).set (i * 6) (.int .i64 y.op)).set (i * 6 + 1) (.int .i64 y.a)).set (i * 6 + 2) (.int .i64 y.b)).set (i * 6 + 3) (.int .i64 y.c)).set (i * 6 + 4) (.int .i64 y.k)).set (i * 6 + 5) (.slice y.la y.l.length y.lc)
  | [], i, y => by simp [rowI]
  | p :: L, 0, y => by simp [rowI, In.cl]
  | p :: L, i + 1, y => by
    have ih := rowI_set (L := L) (i := i) y
    unfold rowI at ih ⊢
    rw [show (i + 1) * 6 = i * 6 + 6 by omega]
    simp only [List.set_cons_succ, List.flatMap_cons, In.cl, List.cons_append, List.nil_append, ih]
/-- A function, wherever it lies. -/
structure AF where
  ps : Int
  rs : Int
  code : List AI
def Fu.abs (f : Fu) : AF := ⟨f.ps, f.rs, f.code.map In.abs⟩
/-- A function's code of one's own. -/
structure OC (w : World) (B : Nat) (f : Fu) : Prop where
  row : w.ownsRow B 80 6 (.slice f.ca f.code.length f.cc) f.code.length (rowI f.code)
  ls : ∀ x ∈ f.code, OL w B x
theorem OC.fr {w w' : World} {B : Nat} {f : Fu} {S : List Nat} (h : OC w B f) (k : Fr S w w') (hS : ∀ j, j ∈ S → w.heap.size ≤ j) : OC w' B f :=
  ⟨own_fr h.row k (fun j hj hm => by have := (h.row.lt j hj).2; have := hS j hm; omega), fun x hx => (h.ls x hx).fr k (fun j hj hm => by have := ((h.ls x hx).lt j hj).2; have := hS j hm; omega)⟩
theorem OC.low {w : World} {B B' : Nat} {f : Fu} (h : OC w B f) (hB : B' ≤ B) : OC w B' f := ⟨own_low h.row hB, fun x hx => (h.ls x hx).low hB⟩
theorem oneC (x : In) : ∀ u ∈ x.cl, u.oneCell' = true := by
  intro u hu
  simp [In.cl] at hu
  rcases hu with rfl | rfl | rfl | rfl | rfl | rfl <;> rfl
theorem rowI_one (L : List In) : ∀ u ∈ rowI L, u.oneCell' = true := by
  intro u hu
  obtain ⟨x, _, hx⟩ := List.mem_flatMap.1 hu
  exact oneC x u hx
theorem IAt.row {B : Nat} {w : World} {a : Option Addr} {L : List In} (h : IAt B w a L) : Row w a (rowI L) := by
  intro ad ha j u hu
  have hj := (List.getElem?_eq_some_iff.1 hu).1
  rw [rowI_len] at hj
  have hi : L[j / 6]? = some (L[j / 6]'(by omega)) := List.getElem?_eq_getElem _
  generalize L[j / 6]'(by omega) = x at hi
  have e := rowI_at hi (j % 6) (by omega)
  rw [show j / 6 * 6 + j % 6 = j by omega, hu] at e
  obtain ⟨b, o, e1, hb, hc⟩ := h _ x hi
  rw [ha] at e1
  injection e1 with e1
  subst e1
  rw [Addr.add_lit]
  have hm : j % 6 < 6 := Nat.mod_lt _ (by omega)
  have hd : o + j = o + j / 6 * 6 + j % 6 := by omega
  rw [hd]
  generalize j % 6 = q at *
  match q, hm, e with
  | 0, _, e => simp [In.cl] at e; subst e; exact hc.c0
  | 1, _, e => simp [In.cl] at e; subst e; exact hc.c1
  | 2, _, e => simp [In.cl] at e; subst e; exact hc.c2
  | 3, _, e => simp [In.cl] at e; subst e; exact hc.c3
  | 4, _, e => simp [In.cl] at e; subst e; exact hc.c4
  | 5, _, e => simp [In.cl] at e; subst e; exact hc.c5
end Go.Proofs.YtkjkpkmmojchiaaGreatDoor
