/-
  The line and the column of a place, by the document; no condition.
-/
import Derived.Test.YtcfhngfogclheaaDoorLexI
namespace Go.Proofs.YtcfhngfogclheaaDoor
open Go.RowKit

set_option maxRecDepth 100000 in
set_option maxHeartbeats 1000000 in
theorem lineR_any (s : ByteArray) (at_ : Int) (w : World) (hs : s.size ≤ 2 ^ 40) :
    Calls Tryd.prog 20 #[.string s, .int .i64 at_] w fun e w' => e = .returned (.tuple #[.int .i64 (lineOf (ahead s at_)), .int .i64 (colOf (ahead s at_))]) ∧ w' = w := by
  by_cases h0 : at_ < 0
  · go_enter Tryd.func20, Tryd.ntmps20
    go_wp2
    go_loop [6, 7, 8] (fun a b i => ∃ k : Nat, k ≤ 0 ∧ i = .int .i64 k ∧ a = .int .i64 (lineOf (s.data.toList.take k)) ∧ b = .int .i64 (colOf (s.data.toList.take k))) (fun _ _ i => s.size - (intOf i).toNat)
    case atStart => exact ⟨0, Nat.zero_le _, rfl, rfl, rfl⟩
    case round =>
      obtain ⟨k, hk, rfl, rfl, rfl⟩ := hrel
      have h1 := line_le (s.data.toList.take k)
      have h2 := col_le (s.data.toList.take k)
      have hl : (s.data.toList.take k).length ≤ k := List.length_take_le _ _
      by_cases hlt : k < 0
      · omega
      · have hkp : k = 0 := by omega
        clear h1 h2 hl
        have HP : Hid (ahead s at_ = s.data.toList.take k) := by show _ = _; unfold ahead plc; congr 1; omega
        clear hkp
        go_wp2
        go_ret2
        refine ⟨?_, rfl⟩; rw [HP.out]; rfl
  · by_cases h3 : (s.size : Int) < at_
    · go_enter Tryd.func20, Tryd.ntmps20
      go_wp2
      go_loop [6, 7, 8] (fun a b i => ∃ k : Nat, k ≤ s.size ∧ i = .int .i64 k ∧ a = .int .i64 (lineOf (s.data.toList.take k)) ∧ b = .int .i64 (colOf (s.data.toList.take k))) (fun _ _ i => s.size - (intOf i).toNat)
      case atStart => exact ⟨0, Nat.zero_le _, rfl, rfl, rfl⟩
      case round =>
        obtain ⟨k, hk, rfl, rfl, rfl⟩ := hrel
        have h1 := line_le (s.data.toList.take k)
        have h2 := col_le (s.data.toList.take k)
        have hl : (s.data.toList.take k).length ≤ k := List.length_take_le _ _
        by_cases hlt : k < s.size
        · have hks : k < s.size := by omega
          have ht := take_snoc s k hks
          have hcs := col_snoc (s.data.toList.take k) s[k]
          have hls := line_snoc (s.data.toList.take k) s[k]
          rw [← ht] at hcs hls
          have hb := byte_lt s[k]
          generalize lineOf (s.data.toList.take k) = A at *
          generalize colOf (s.data.toList.take k) = B at *
          generalize (s.data.toList.take k).length = LL at *
          obtain ⟨h1a, h1b⟩ := h1
          obtain ⟨h2a, h2b⟩ := h2
          by_cases h10 : s[k].toNat = 10
          · have h' : ((s[k].toNat : Int) == 10) = true := by simp; omega
            rw [if_pos h10] at hcs hls
            have HC : Hid _ := hcs
            have HL : Hid _ := hls
            clear hcs hls ht h10
            go_wp2
            go_round
            case rel => exact ⟨k + 1, hlt, by go_num, by rw [HL.out]; go_num, by rw [HC.out]; rfl⟩
            case measure => simp [intOf]; omega
          · have h' : ((s[k].toNat : Int) == 10) = false := beq_int_false (by omega)
            rw [if_neg h10] at hcs hls
            have HC : Hid _ := hcs
            have HL : Hid _ := hls
            clear hcs hls ht h10
            go_wp2
            go_round
            case rel => exact ⟨k + 1, hlt, by go_num, by rw [HL.out], by rw [HC.out]; go_num⟩
            case measure => simp [intOf]; omega
        · have hkp : k = s.size := by omega
          clear h1 h2 hl
          have HP : Hid (ahead s at_ = s.data.toList.take k) := by show _ = _; unfold ahead plc; congr 1; omega
          clear hkp
          go_wp2
          go_ret2
          refine ⟨?_, rfl⟩; rw [HP.out]; rfl
    · obtain ⟨p, rfl⟩ : ∃ p : Nat, at_ = p := ⟨at_.toNat, by omega⟩
      have hp : p ≤ s.size := by omega
      go_enter Tryd.func20, Tryd.ntmps20
      go_wp2
      go_loop [6, 7, 8] (fun a b i => ∃ k : Nat, k ≤ p ∧ i = .int .i64 k ∧ a = .int .i64 (lineOf (s.data.toList.take k)) ∧ b = .int .i64 (colOf (s.data.toList.take k))) (fun _ _ i => s.size - (intOf i).toNat)
      case atStart => exact ⟨0, Nat.zero_le _, rfl, rfl, rfl⟩
      case round =>
        obtain ⟨k, hk, rfl, rfl, rfl⟩ := hrel
        have h1 := line_le (s.data.toList.take k)
        have h2 := col_le (s.data.toList.take k)
        have hl : (s.data.toList.take k).length ≤ k := List.length_take_le _ _
        by_cases hlt : k < p
        · have hks : k < s.size := by omega
          have ht := take_snoc s k hks
          have hcs := col_snoc (s.data.toList.take k) s[k]
          have hls := line_snoc (s.data.toList.take k) s[k]
          rw [← ht] at hcs hls
          have hb := byte_lt s[k]
          generalize lineOf (s.data.toList.take k) = A at *
          generalize colOf (s.data.toList.take k) = B at *
          generalize (s.data.toList.take k).length = LL at *
          obtain ⟨h1a, h1b⟩ := h1
          obtain ⟨h2a, h2b⟩ := h2
          by_cases h10 : s[k].toNat = 10
          · have h' : ((s[k].toNat : Int) == 10) = true := by simp; omega
            rw [if_pos h10] at hcs hls
            have HC : Hid _ := hcs
            have HL : Hid _ := hls
            clear hcs hls ht h10
            go_wp2
            go_round
            case rel => exact ⟨k + 1, hlt, by go_num, by rw [HL.out]; go_num, by rw [HC.out]; rfl⟩
            case measure => simp [intOf]; omega
          · have h' : ((s[k].toNat : Int) == 10) = false := beq_int_false (by omega)
            rw [if_neg h10] at hcs hls
            have HC : Hid _ := hcs
            have HL : Hid _ := hls
            clear hcs hls ht h10
            go_wp2
            go_round
            case rel => exact ⟨k + 1, hlt, by go_num, by rw [HL.out], by rw [HC.out]; go_num⟩
            case measure => simp [intOf]; omega
        · have hkp : k = p := by omega
          clear h1 h2 hl
          have HP : Hid (ahead s (p : Int) = s.data.toList.take k) := by show _ = _; unfold ahead plc; congr 1; omega
          clear hkp
          go_wp2
          go_ret2
          refine ⟨?_, rfl⟩; rw [HP.out]; rfl
end Go.Proofs.YtcfhngfogclheaaDoor
