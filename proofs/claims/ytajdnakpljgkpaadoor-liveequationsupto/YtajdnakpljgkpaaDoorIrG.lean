/-
  Sorting rows of at most two numbers, and taking out what stands twice in them; conditions: the row is the caller's own.
-/
import Derived.Test.YtajdnakpljgkpaaDoorIrA
namespace Go.Proofs.YtajdnakpljgkpaaDoor
open Go.RowKit
set_option linter.unusedVariables false
set_option linter.unusedSimpArgs false

set_option maxRecDepth 100000 in
set_option maxHeartbeats 1000000 in
theorem len64_any (n : Nat) (h : n ≤ 2) (w : World) : Calls Tryd.prog 100 #[.int .u64 n] w fun e w' => ∃ z : Int, e = .returned (.int .i64 z) ∧ w' = w := by
  match n, h with
  | 0, _ =>
    go_enter Tryd.func100, Tryd.ntmps100
    go_wp2
    go_ret
    exact ⟨_, rfl, rfl⟩
  | 1, _ =>
    go_enter Tryd.func100, Tryd.ntmps100
    go_wp2
    go_ret
    exact ⟨_, rfl, rfl⟩
  | 2, _ =>
    go_enter Tryd.func100, Tryd.ntmps100
    go_wp2
    go_ret
    exact ⟨_, rfl, rfl⟩

set_option maxRecDepth 100000 in
set_option maxHeartbeats 1000000 in
theorem len_any (n : Nat) (h : n ≤ 2) (w : World) : Calls Tryd.prog 87 #[.int .u64 n] w fun e w' => ∃ z : Int, e = .returned (.int .i64 z) ∧ w' = w := by
  go_enter Tryd.func87, Tryd.ntmps87
  go_wp2_with (go_at_call 100; refine (len64_any n h _).mono ?_; rintro e w' ⟨z, rfl, rfl⟩)
  go_ret
  exact ⟨z, rfl, rfl⟩

set_option maxRecDepth 100000 in
theorem nan_any (a : Int) (w : World) : Calls Tryd.prog 106 #[.int .i64 a] w fun e w' => e = .returned (.bool false) ∧ w' = w := by
  go_enter Tryd.func106, Tryd.ntmps106
  go_wp2
  go_ret
  exact ⟨rfl, rfl⟩
set_option maxRecDepth 100000 in
theorem less_any (a b : Int) (w : World) : Calls Tryd.prog 96 #[.int .i64 a, .int .i64 b] w fun e w' => e = .returned (.bool (decide (a < b))) ∧ w' = w := by
  go_enter Tryd.func96, Tryd.ntmps96
  go_wp2_with (go_at_call 106; refine (nan_any _ _).mono ?_; rintro e w' ⟨rfl, rfl⟩)
  all_goals go_ret
  all_goals exact ⟨rfl, rfl⟩

set_option maxRecDepth 100000 in
set_option maxHeartbeats 1000000 in
theorem ins1_any (v : Option Addr) (n c : Nat) (hn : n ≤ 1) (w : World) : Calls Tryd.prog 90 #[.slice v n c, .int .i64 0, .int .i64 n] w fun e w' => e = .returned (.tuple #[]) ∧ w' = w := by
  have hb : ¬ (1 : Int) < (n : Int) := by omega
  go_enter Tryd.func90, Tryd.ntmps90
  go_wp2
  go_loopw [6] (fun i wr => i = .int .i64 1 ∧ wr = w) (fun _ _ => 0)
  case atStart => exact ⟨rfl, rfl⟩
  case round =>
    obtain ⟨rfl, rfl⟩ := hrel
    go_wp2
    go_end0
    exact ⟨rfl, rfl⟩

/-- Two numbers in order. -/
def srt2 : List Int → List Int
  | [a, b] => if b < a then [b, a] else [a, b]
  | l => l

/-- A row of one's own, by its block. -/
def RowB (w : World) (g : Nat) (cur : List Value) : Prop := w.heap[g]? = some (.cells cur.toArray 3 (0, 0))
theorem RowB.cell {w : World} {g : Nat} {cur : List Value} (h : RowB w g cur) {i : Nat} {u : Value} (hu : cur[i]? = some u) : w.cell? ⟨g, i, none⟩ = some u := by
  unfold RowB at h
  simp [World.cell?, h, hu]
theorem RowB.fz {w : World} {g : Nat} {cur : List Value} (h : RowB w g cur) (i : Nat) : w.frozen? ⟨g, i, none⟩ = false := by unfold RowB at h; simp [World.frozen?, h]
theorem RowB.set {w : World} {g : Nat} {cur : List Value} (h : RowB w g cur) (i : Nat) (v : Value) : RowB (w.setCell ⟨g, i, none⟩ v) g (cur.set i v) := by
  unfold RowB
  rw [heap_setCell_same _ _ _ _ _ _ h]
  simp

set_option maxRecDepth 100000 in
set_option maxHeartbeats 2000000 in
theorem ins2_any (g c : Nat) (a b : Int) (r : List Value) (w : World) (h : RowB w g (.int .i64 a :: .int .i64 b :: r)) :
    Calls Tryd.prog 90 #[.slice (some ⟨g, 0, none⟩) 2 c, .int .i64 0, .int .i64 2] w fun e w' => e = .returned (.tuple #[]) ∧ Fr [g] w w' ∧ RowB w' g ((srt2 [a, b]).map (Value.int .i64) ++ r) := by
  by_cases hab : b < a
  · have HS : Hid (srt2 [a, b] = [b, a]) := by unfold Hid; simp [srt2, hab]
    have hd : decide (b < a) = true := by simpa using hab
    have hd2 : decide (a < b) = false := by simp; omega
    go_enter Tryd.func90, Tryd.ntmps90
    go_wp2
    go_loopw [6, 7] (fun i _ wr => Fr [g] w wr ∧ ((i = .int .i64 1 ∧ RowB wr g (.int .i64 a :: .int .i64 b :: r)) ∨ (i = .int .i64 2 ∧ RowB wr g (.int .i64 b :: .int .i64 a :: r)))) (fun i _ _ => 2 - (intOf i).toNat)
    case atStart => exact ⟨Fr.refl _ _, .inl ⟨rfl, h⟩⟩
    case round =>
      obtain ⟨fw, ⟨rfl, hw⟩ | ⟨rfl, hw⟩⟩ := hrel
      · clear h
        go_wp2
        go_loopw [7] (fun j wq => Fr [g] w wq ∧ ((j = .int .i64 1 ∧ RowB wq g (.int .i64 a :: .int .i64 b :: r)) ∨ (j = .int .i64 0 ∧ RowB wq g (.int .i64 b :: .int .i64 a :: r)))) (fun j _ => (intOf j).toNat)
        case atStart => exact ⟨fw, .inl ⟨rfl, hw⟩⟩
        case round =>
          obtain ⟨fq, ⟨rfl, hq⟩ | ⟨rfl, hq⟩⟩ := hrel
          · clear hw
            have m0 : ∀ w', Fr [] wr w' → w'.cell? ⟨g, 0, none⟩ = some (.int .i64 a) := fun w' f => f.cell1 (hq.cell rfl) (by simp)
            have m1 : ∀ w', Fr [] wr w' → w'.cell? ⟨g, 1, none⟩ = some (.int .i64 b) := fun w' f => f.cell1 (hq.cell rfl) (by simp)
            have C := fun w' => less_any b a w'
            rw [hd] at C
            have RF : Fr [] wr wr := Fr.refl _ _
            have HD : ∀ w' : World, Fr [] wr w' → Fr [] wr w'.drew := fun w' h => h.drew
            have hw0 : IntKind.i64.wrap 0 = 0 := by decide
            go_wp2_with fail
            go_region_held3 (fun w' : World => Fr [] wr w')
              (with_reducible (first | assumption | exact HD _ (by assumption)))
              (first
                | (go_at_call 96; with_reducible (refine (C _).mono ?_); rintro e w1 ⟨rfl, rfl⟩))
            have hq1 : RowB wr.drew g (.int .i64 a :: .int .i64 b :: r) := hq
            have fq1 : Fr [g] w wr.drew := fq.drew
            clear m0 m1 C RF HD
            generalize wr.drew = W1 at *
            have m0 : W1.cell? ⟨g, 0, none⟩ = some (.int .i64 a) := hq1.cell rfl
            have m1 : W1.cell? ⟨g, 1, none⟩ = some (.int .i64 b) := hq1.cell rfl
            have z0 := hq1.fz 0
            have z1 := hq1.fz 1
            have s1 := (hq1.set 1 (.int .i64 a)).set 0 (.int .i64 b)
            have s2 := (hq1.set 0 (.int .i64 b)).set 1 (.int .i64 a)
            simp only [List.set_cons_succ, List.set_cons_zero] at s1 s2
            go_wp2
            go_region
            all_goals
              have s1' : RowB ((W1.setCell ⟨g, 1, none⟩ (.int .i64 a)).setCell ⟨g, 0, none⟩ (.int .i64 b)).drew g _ := s1
              have f1' : Fr [g] w ((W1.setCell ⟨g, 1, none⟩ (.int .i64 a)).setCell ⟨g, 0, none⟩ (.int .i64 b)).drew := ((fq1.setCell (.inl (by simp)) _).setCell (.inl (by simp)) _).drew
              go_wp2
              go_roundw
              case rel => exact ⟨f1', .inr ⟨rfl, s1'⟩⟩
              case measure => simp [intOf]
          · clear hw
            go_wp2_with fail
            go_quiet (fail)
            go_wp2
            go_roundw
            case rel => exact ⟨fq.drewN _, .inr ⟨rfl, hq⟩⟩
            case measure => simp [intOf]
      · go_wp2
        go_end0
        refine ⟨rfl, fw, ?_⟩
        rw [HS.out]
        exact hw
  · have HS : Hid (srt2 [a, b] = [a, b]) := by unfold Hid; simp [srt2, hab]
    have hd : decide (b < a) = false := by simpa using hab
    go_enter Tryd.func90, Tryd.ntmps90
    go_wp2
    go_loopw [6, 7] (fun i _ wr => Fr [g] w wr ∧ RowB wr g (.int .i64 a :: .int .i64 b :: r) ∧ (i = .int .i64 1 ∨ i = .int .i64 2)) (fun i _ _ => 2 - (intOf i).toNat)
    case atStart => exact ⟨Fr.refl _ _, h, .inl rfl⟩
    case round =>
      obtain ⟨fw, hw, rfl | rfl⟩ := hrel
      · clear h
        go_wp2
        go_loopw [7] (fun j wq => Fr [g] w wq ∧ RowB wq g (.int .i64 a :: .int .i64 b :: r) ∧ j = .int .i64 1) (fun j _ => 0)
        case atStart => exact ⟨fw, hw, rfl⟩
        case round =>
          obtain ⟨fq, hq, rfl⟩ := hrel
          clear hw
          have m0 : ∀ w', Fr [] wr w' → w'.cell? ⟨g, 0, none⟩ = some (.int .i64 a) := fun w' f => f.cell1 (hq.cell rfl) (by simp)
          have m1 : ∀ w', Fr [] wr w' → w'.cell? ⟨g, 1, none⟩ = some (.int .i64 b) := fun w' f => f.cell1 (hq.cell rfl) (by simp)
          have C := fun w' => less_any b a w'
          rw [hd] at C
          have RF : Fr [] wr wr := Fr.refl _ _
          have HD : ∀ w' : World, Fr [] wr w' → Fr [] wr w'.drew := fun w' h => h.drew
          have hw0 : IntKind.i64.wrap 0 = 0 := by decide
          go_wp2_with fail
          go_region_held3 (fun w' : World => Fr [] wr w')
            (with_reducible (first | assumption | exact HD _ (by assumption)))
            (first
              | (go_at_call 96; with_reducible (refine (C _).mono ?_); rintro e w1 ⟨rfl, rfl⟩))
          clear m0 m1 C RF HD
          go_wp2
          go_roundw
          case rel => exact ⟨fq.drew, hq, .inr rfl⟩
          case measure => simp [intOf]
      · go_wp2
        go_end0
        refine ⟨rfl, fw, ?_⟩
        rw [HS.out]
        exact hw

end Go.Proofs.YtajdnakpljgkpaaDoor
