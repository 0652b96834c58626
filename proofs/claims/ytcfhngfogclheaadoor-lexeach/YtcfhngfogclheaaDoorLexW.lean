/-
  Blanks, notes and signs, by the document; no condition.
-/
import Derived.Test.YtcfhngfogclheaaDoorLexU
namespace Go.Proofs.YtcfhngfogclheaaDoor
open Go.RowKit

/-- A byte, 0 where there is none. -/
def atB (s : ByteArray) (i : Nat) : Nat := if h : i < s.size then s[i].toNat else 0
theorem atB_in {s : ByteArray} {i : Nat} (h : i < s.size) : atB s i = s[i].toNat := by unfold atB; rw [dif_pos h]
theorem atB_out {s : ByteArray} {i : Nat} (h : ¬ i < s.size) : atB s i = 0 := by unfold atB; rw [dif_neg h]
theorem atB_lt (s : ByteArray) (i : Nat) : atB s i < 256 := by
  unfold atB
  split
  · exact byte_lt _
  · omega

set_option linter.unusedVariables false in
theorem at_any (s : ByteArray) (i : Nat) (w : World) (hs : s.size ≤ maxLen) :
    Calls Tryd.prog 41 #[.string s, .int .i64 i] w fun e w' => e = .returned (.int .u8 (atB s i)) ∧ w' = w := by
  unfold maxLen at hs
  by_cases h : i < s.size
  · rw [atB_in h]
    go_enter Tryd.func41, Tryd.ntmps41
    go_wp2
    go_ret
    exact ⟨rfl, rfl⟩
  · rw [atB_out h]
    have h' : ¬ (i : Int) < s.size := by omega
    go_enter Tryd.func41, Tryd.ntmps41
    go_wp2
    go_ret
    exact ⟨rfl, rfl⟩

theorem note_at {s : ByteArray} {k : Nat} (h : k < s.size) : note s k = (decide (s[k].toNat = 47) && decide (atB s (k + 1) = 47)) := by
  unfold note
  rw [drop_cons s k h, pref_note, Bool.eq_iff_iff]
  by_cases h1 : k + 1 < s.size
  · rw [drop_cons s (k + 1) h1, atB_in h1]
    have k1 := u8eq s[k + 1] 47 (by decide)
    simp only [List.head?_cons, Option.some.injEq, decide_eq_true_eq, Bool.and_eq_true]
    rw [← k1]
    rfl
  · rw [drop_end s (k + 1) (by omega), atB_out h1]
    simp

theorem nlE_step {s : ByteArray} {k : Nat} (h : k < s.size) (h10 : ¬ s[k].toNat = 10) : nlE s k = nlE s (k + 1) := by
  unfold nlE
  rw [drop_cons s k h]
  simp only [toNl]
  rw [if_neg h10]
  omega
theorem nlE_stop {s : ByteArray} {k : Nat} (h : k < s.size) (h10 : s[k].toNat = 10) : nlE s k = k := by
  unfold nlE
  rw [drop_cons s k h]
  simp only [toNl]
  rw [if_pos h10]
  omega
theorem nlE_end {s : ByteArray} {k : Nat} (h : s.size ≤ k) : nlE s k = k := by
  unfold nlE
  rw [drop_end s k h]
  simp [toNl]

set_option maxRecDepth 100000 in
set_option maxHeartbeats 1000000 in
theorem skipR_any (s : ByteArray) (k0 : Nat) (w : World) (hs : s.size ≤ maxLen) (hk0 : k0 ≤ s.size) :
    Calls Tryd.prog 22 #[.string s, .int .i64 k0] w fun e w' => e = .returned (.int .i64 (skE s k0)) ∧ w' = w := by
  have hat := fun k w => at_any s (k + 1) w hs
  unfold maxLen at hs
  go_enter Tryd.func22, Tryd.ntmps22
  go_wp2
  go_loop [1] (fun i => ∃ k : Nat, k ≤ s.size ∧ i = .int .i64 k ∧ Hid (skE s k = skE s k0)) (fun i => s.size - (intOf i).toNat)
  case atStart => exact ⟨k0, hk0, rfl, rfl⟩
  case round =>
    obtain ⟨k, hk, rfl, he⟩ := hrel
    by_cases hlt : k < s.size
    · have hb := byte_lt s[k]
      by_cases hbl : isBl s[k].toNat = true
      · have hr := skE_bl s k hlt hbl
        have hcl := of_decide_eq_true hbl
        clear hbl hat
        rcases hcl with hcl | hcl | hcl | hcl
        · have e32 : ((s[k].toNat : Int) == 32) = true := by simp; omega
          clear hcl
          go_wp2
          go_round
          case rel => exact ⟨k + 1, hlt, by go_num, hr ▸ he⟩
          case measure => simp [intOf]; omega
        · have e32 : ((s[k].toNat : Int) == 32) = false := beq_int_false (by omega)
          have e9 : ((s[k].toNat : Int) == 9) = true := by simp; omega
          clear hcl
          go_wp2
          go_round
          case rel => exact ⟨k + 1, hlt, by go_num, hr ▸ he⟩
          case measure => simp [intOf]; omega
        · have e32 : ((s[k].toNat : Int) == 32) = false := beq_int_false (by omega)
          have e9 : ((s[k].toNat : Int) == 9) = false := beq_int_false (by omega)
          have e10 : ((s[k].toNat : Int) == 10) = true := by simp; omega
          clear hcl
          go_wp2
          go_round
          case rel => exact ⟨k + 1, hlt, by go_num, hr ▸ he⟩
          case measure => simp [intOf]; omega
        · have e32 : ((s[k].toNat : Int) == 32) = false := beq_int_false (by omega)
          have e9 : ((s[k].toNat : Int) == 9) = false := beq_int_false (by omega)
          have e10 : ((s[k].toNat : Int) == 10) = false := beq_int_false (by omega)
          have e13 : ((s[k].toNat : Int) == 13) = true := by simp; omega
          clear hcl
          go_wp2
          go_round
          case rel => exact ⟨k + 1, hlt, by go_num, hr ▸ he⟩
          case measure => simp [intOf]; omega
      · have hbl' : isBl s[k].toNat = false := by simpa using hbl
        have hcl := of_decide_eq_false hbl'
        have e32 : ((s[k].toNat : Int) == 32) = false := beq_int_false (by omega)
        have e9 : ((s[k].toNat : Int) == 9) = false := beq_int_false (by omega)
        have e10 : ((s[k].toNat : Int) == 10) = false := beq_int_false (by omega)
        have e13 : ((s[k].toNat : Int) == 13) = false := beq_int_false (by omega)
        have hnote := skE_note s k hlt hbl'
        have hout := skE_out s k hlt hbl'
        have hna := note_at hlt
        have hA := atB_lt s (k + 1)
        have hat' := hat k
        clear hat hcl hbl hbl'
        have hat2 : ∀ w, Calls Tryd.prog 41 #[.string s, .int .i64 ((k : Int) + 1)] w fun e w' => e = .returned (.int .u8 (atB s (k + 1))) ∧ w' = w := fun w => by simpa using hat' w
        clear hat'
        by_cases h47 : s[k].toNat = 47
        · have f47 : ((s[k].toNat : Int) == 47) = true := by simp; omega
          by_cases g47 : atB s (k + 1) = 47
          · have n1 : note s k = true := by rw [hna, h47, g47]; rfl
            obtain ⟨hr, hgt⟩ := hnote n1
            have hnl := nlE_le s k hk
            have HR : Hid (skE s (nlE s k) = skE s k0) := by show _ = _; rw [← he.out, hr]
            rw [g47] at hat2
            clear hna hout n1 hr g47 h47 hA hnote
            go_wp2_with (go_at_call 41; refine (hat2 _).mono ?_; rintro e w' ⟨rfl, rfl⟩)
            go_loop [1] (fun i => ∃ j : Nat, j ≤ s.size ∧ i = .int .i64 j ∧ k ≤ j ∧ Hid (nlE s j = nlE s k)) (fun i => s.size - (intOf i).toNat)
            case atStart => exact ⟨k, hk, rfl, Nat.le_refl _, rfl⟩
            case round =>
              obtain ⟨j, hj, rfl, hkj, hje⟩ := hrel
              by_cases hjl : j < s.size
              · have hbj := byte_lt s[j]
                by_cases h10 : s[j].toNat = 10
                · have m10 : ((s[j].toNat : Int) != 10) = false := by simp; omega
                  have hst := nlE_stop hjl h10
                  rw [hje.out] at hst
                  rw [hst] at HR hgt
                  clear hst h10 hnl hje
                  go_wp2
                  go_round
                  case rel => exact ⟨j, hj, rfl, HR⟩
                  case measure => simp [intOf]; omega
                · have m10 : ((s[j].toNat : Int) != 10) = true := by simp; omega
                  have hst := nlE_step hjl h10
                  rw [hje.out] at hst
                  have HST : Hid _ := hst
                  clear hst h10 hje
                  go_wp2
                  go_round
                  case rel => exact ⟨j + 1, hjl, by go_num, by omega, HST.out.symm⟩
                  case measure => simp [intOf]; omega
              · have hst := nlE_end (s := s) (k := j) (by omega)
                rw [hje.out] at hst
                rw [hst] at HR hgt
                clear hst hnl hje
                go_wp2
                go_round
                case rel => exact ⟨j, hj, rfl, HR⟩
                case measure => simp [intOf]; omega
          · have n1 : note s k = false := by rw [hna, h47, decide_eq_false g47]; rfl
            have hr := hout n1
            have g47' : ((atB s (k + 1) : Int) == 47) = false := beq_int_false (by omega)
            generalize atB s (k + 1) = A at *
            clear hna hout n1 hnote h47 g47
            go_wp2_with (go_at_call 41; refine (hat2 _).mono ?_; rintro e w' ⟨rfl, rfl⟩)
            go_ret
            refine ⟨?_, rfl⟩; rw [← he.out, hr]; rfl
        · have f47 : ((s[k].toNat : Int) == 47) = false := beq_int_false (by omega)
          have n1 : note s k = false := by rw [hna, decide_eq_false h47]; rfl
          have hr := hout n1
          clear hna hout n1 hnote h47 hat2 hA
          go_wp2
          go_ret
          refine ⟨?_, rfl⟩; rw [← he.out, hr]; rfl
    · have hr := skE_end s k (by omega)
      go_wp2
      go_ret
      refine ⟨?_, rfl⟩; rw [← he.out, hr]; rfl
end Go.Proofs.YtcfhngfogclheaaDoor
