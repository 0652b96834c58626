/-
  Taking out what stands twice in rows of at most two numbers; conditions: the row is the caller's own.
-/
import Derived.Test.YtajdnakpljgkpaaDoorIrH
import Derived.Lib.SliceRun
namespace Go.Proofs.YtajdnakpljgkpaaDoor
open Go.RowKit
set_option linter.unusedVariables false
set_option linter.unusedSimpArgs false

/-- Of two equal numbers the one. -/
def dd2 : List Int → List Int
  | [a, b] => if b = a then [a] else [a, b]
  | l => l

set_option maxRecDepth 100000 in
set_option maxHeartbeats 2000000 in
theorem compact_any (base : Nat) (v : Value) (K : List Int) (hK : K.length ≤ 2) (w : World) (h : OR w base v K) :
    Calls Tryd.prog 74 #[v] w fun e w' => ∃ v', e = .returned v' ∧ OR w' base v' (dd2 K) ∧ Fr v.ownBlock.toList w w' := by
  match K, hK with
  | [], _ =>
    obtain ⟨a, c, rfl, _⟩ := h.slice
    go_enter Tryd.func74, Tryd.ntmps74
    go_wp2
    go_ret
    exact ⟨_, rfl, h, Fr.refl _ _⟩
  | [k], _ =>
    obtain ⟨a, c, rfl, _⟩ := h.slice
    have HH : Hid _ := h
    clear h
    simp only [List.length_cons, List.length_nil, Nat.zero_add] at HH ⊢
    go_enter Tryd.func74, Tryd.ntmps74
    go_wp2
    go_ret
    exact ⟨_, rfl, HH, Fr.refl _ _⟩
  | [a, b], _ =>
    obtain ⟨g, c, r, rfl, hb, hr, hl, hc⟩ := h.rowB (by simp)
    have HH : Hid _ := h
    have c0 : w.cell? ⟨g, 0, none⟩ = some (.int .i64 a) := hr.cell rfl
    have c1 : w.cell? ⟨g, 1, none⟩ = some (.int .i64 b) := hr.cell rfl
    have hcI : 2 ≤ c := by simp at hl; omega
    have hcJ : (2 : Int) ≤ c := by omega
    have hcm : (c : Int) ≤ 9223372036854775807 := by unfold maxLen at hc; omega
    have HL : Hid ([a, b].length + r.length = c) := hl
    have HC : Hid (c ≤ maxLen) := hc
    clear h hl hc
    simp only [List.length_cons, List.length_nil, Nat.zero_add, Nat.reduceAdd] at HH ⊢
    have hw0 : IntKind.i64.wrap 0 = 0 := by decide
    by_cases hab : b = a
    · subst hab
      have HD : Hid (dd2 [b, b] = [b]) := by unfold Hid; simp [dd2]
      have hc2 : c ≠ 1 := by omega
      have hc3 : (c == 1) = false := by simpa using hc2
      have hc4 : ¬ c ≤ 1 := by omega
      go_enter Tryd.func74, Tryd.ntmps74
      go_wp2
      go_loopw [3, 4, 5] (fun k _ _ wr => Fr [g] w wr ∧ RowB wr g (.int .i64 b :: .int .i64 b :: r) ∧ k = .int .i64 1) (fun k _ _ _ => 0)
      case atStart => exact ⟨Fr.refl _ _, hr, rfl⟩
      case round =>
        obtain ⟨fw, hw, rfl⟩ := hrel
        have m0 : wr.cell? ⟨g, 0, none⟩ = some (.int .i64 b) := hw.cell rfl
        have m1 : wr.cell? ⟨g, 1, none⟩ = some (.int .i64 b) := hw.cell rfl
        go_wp2
        go_quiet (fail)
        rename_i nq
        have fw1 := fw.drewN nq
        have hw1 : RowB (wr.drewN nq) g (.int .i64 b :: .int .i64 b :: r) := hw
        clear m0 m1 c0 c1
        generalize wr.drewN nq = W1 at *
        go_wp2
        go_loopw [3, 5] (fun k j wq => wq = W1 ∧ k = .int .i64 1 ∧ j = .int .i64 1) (fun _ _ _ => 0)
        case atStart => exact ⟨rfl, rfl, rfl⟩
        case round =>
          obtain ⟨rfl, rfl, rfl⟩ := hrel
          have hcl := fun ty c' => Lib.run_clear_slice (P := Tryd.prog) wr 30 3 ty (.int .i64 0) Tryd.underlying30 (fun w => by kernel_rfl) rfl rfl g 1 1 c' (by omega) (fun j hj => by obtain rfl : j = 0 := (by omega); rw [hw1.cell (u := .int .i64 b) rfl]; rfl) (fun j hj => hw1.fz _)
          go_wp2
          go_ret
          have hs := hw1.set 1 (.int .i64 0)
          have fs : Fr [g] w (wr.setCell ⟨g, 1, none⟩ (.int .i64 0)) := fw1.setCell (.inl (by simp)) _
          refine ⟨_, rfl, ?_, ?_⟩
          · rw [HD.out]
            exact RowB.or (K := [b]) (r := .int .i64 0 :: r) hs hb (by have := HL.out; simp at this ⊢; omega) HC.out
          · exact (show Fr [g] w (wr.setCells g 1 [.int .i64 0]) from fs)
    · have hE : (b == a) = false := by simpa using hab
      have HD : Hid (dd2 [a, b] = [a, b]) := by unfold Hid; simp [dd2, hab]
      go_enter Tryd.func74, Tryd.ntmps74
      go_wp2
      go_loopw [3] (fun k wr => Fr [g] w wr ∧ RowB wr g (.int .i64 a :: .int .i64 b :: r) ∧ (k = .int .i64 1 ∨ k = .int .i64 2)) (fun k _ => 2 - (intOf k).toNat)
      case atStart => exact ⟨Fr.refl _ _, hr, .inl rfl⟩
      case round =>
        obtain ⟨fw, hw, rfl | rfl⟩ := hrel
        · have m0 : wr.cell? ⟨g, 0, none⟩ = some (.int .i64 a) := hw.cell rfl
          have m1 : wr.cell? ⟨g, 1, none⟩ = some (.int .i64 b) := hw.cell rfl
          go_wp2
          go_quiet (fail)
          go_wp2
          go_roundw
          case rel => exact ⟨fw.drewN _, hw, .inr rfl⟩
          case measure => simp [intOf]
        · go_wp2
          go_ret
          refine ⟨_, rfl, ?_, by simpa [Value.ownBlock] using fw⟩
          rw [HD.out]
          have := hw.or (K := [a, b]) hb HL.out HC.out
          exact this
end Go.Proofs.YtajdnakpljgkpaaDoor
