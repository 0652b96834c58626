/-
  The document's answers for numbers and names; condition: the table lies as the program's text lays it.
-/
import Derived.Test.YtodhagbeaobphaaGreatDoorLexE
namespace Go.Proofs.YtodhagbeaobphaaGreatDoor
open Go.RowKit

set_option maxRecDepth 100000 in
set_option maxHeartbeats 1000000 in
theorem whole10 (s : ByteArray) (w : World) (hs : s.size ≤ maxLen) :
    Calls Tryz.prog 90 #[.string s, .int .u64 10] w fun e w' => e = nOut (valueL 10 s.data.toList) ∧ w' = w := by
  unfold maxLen at hs
  go_enter Tryz.func90, Tryz.ntmps90
  go_wp2
  go_loop [6, 7] (fun n i => ∃ k m : Nat, k ≤ s.size ∧ i = .int .i64 k ∧ n = .int .u64 m ∧ m ≤ 9223372036854775807 ∧ Hid (valL 10 (s.data.toList.drop k) m = valL 10 s.data.toList 0)) (fun _ i => s.size - (intOf i).toNat)
  case atStart => exact ⟨0, 0, Nat.zero_le _, rfl, rfl, by omega, rfl⟩
  case round =>
    obtain ⟨k, m, hk, rfl, rfl, hm, he⟩ := hrel
    by_cases hlt : k < s.size
    · have hb := byte_lt s[k]
      have hd := fig_le s[k].toNat
      have he' := he.out
      rw [drop_cons s k hlt] at he'
      have hne : s.data.toList ≠ [] := by intro e; have := drop_cons s k hlt; rw [e] at this; simp at this
      have hv : valueL 10 s.data.toList = valL 10 s.data.toList 0 := by simp only [valueL]; rw [if_neg hne]
      have HV : Hid (valueL 10 s.data.toList = valL 10 s.data.toList 0) := hv
      have HE : Hid (valL 10 (s[k] :: s.data.toList.drop (k + 1)) m = valL 10 s.data.toList 0) := he'
      clear he' hv he hne
      have hstop : Hid (10 ≤ fig s[k].toNat ∨ (9223372036854775807 - fig s[k].toNat) / 10 < m → valueL 10 s.data.toList = none) := fun h => by rw [HV.out, ← HE.out, valL_stop h]
      have hgo : Hid (¬ 10 ≤ fig s[k].toNat → ¬ (9223372036854775807 - fig s[k].toNat) / 10 < m → valL 10 (s.data.toList.drop (k + 1)) (m * 10 + fig s[k].toNat) = valL 10 s.data.toList 0) := fun h1 h2 => by rw [← HE.out, valL_go h1 h2]
      clear HE HV
      have hfg := fun w => figure_any s[k].toNat w hb
      unfold figR at hfg
      generalize fig s[k].toNat = D at *
      by_cases h1 : 10 ≤ D
      · have e1 := nOut_none (hstop.out (.inl h1))
        have E1 : Hid _ := e1
        clear e1
        have hdd : 10 ≤ (if D = 16 then 99 else D) ∧ (if D = 16 then 99 else D) ≤ 99 := by split <;> omega
        generalize (if D = 16 then 99 else D) = D' at *
        obtain ⟨d1, d2⟩ := hdd
        go_wp2_with (go_at_call 122; refine (hfg _).mono ?_; rintro e w' ⟨rfl, rfl⟩)
        go_ret2
        exact ⟨E1.out, rfl⟩
      · rw [if_neg (by omega)] at hfg
        by_cases h2 : (9223372036854775807 - D) / 10 < m
        · have e1 := nOut_none (hstop.out (.inr h2))
          have E1 : Hid _ := e1
          clear e1
          go_wp2_with (go_at_call 122; refine (hfg _).mono ?_; rintro e w' ⟨rfl, rfl⟩)
          all_goals first | (exfalso; omega) | skip
          go_ret2
          exact ⟨E1.out, rfl⟩
        · have hg := hgo.out h1 h2
          have HG : Hid _ := hg
          clear hg hgo hstop
          have hle : m * 10 + D ≤ 9223372036854775807 := by omega
          go_wp2_with (go_at_call 122; refine (hfg _).mono ?_; rintro e w' ⟨rfl, rfl⟩)
          all_goals first | (exfalso; omega) | skip
          go_round
          case rel => exact ⟨k + 1, m * 10 + D, hlt, by go_num, by first | go_num | (congr 1; omega), hle, HG⟩
          case measure => simp [intOf]; omega
    · have : k = s.size := by omega
      subst this
      have he' := he.out
      rw [drop_end s s.size (Nat.le_refl _)] at he'
      simp only [valL] at he'
      have HE : Hid (some m = valL 10 s.data.toList 0) := he'
      clear he he'
      go_wp2
      go_ret2
      exact ⟨value_end 10 s m HE.out, rfl⟩

set_option maxRecDepth 100000 in
set_option maxHeartbeats 1000000 in
theorem whole16 (s : ByteArray) (w : World) (hs : s.size ≤ maxLen) :
    Calls Tryz.prog 90 #[.string s, .int .u64 16] w fun e w' => e = nOut (valueL 16 s.data.toList) ∧ w' = w := by
  unfold maxLen at hs
  go_enter Tryz.func90, Tryz.ntmps90
  go_wp2
  go_loop [6, 7] (fun n i => ∃ k m : Nat, k ≤ s.size ∧ i = .int .i64 k ∧ n = .int .u64 m ∧ m ≤ 9223372036854775807 ∧ Hid (valL 16 (s.data.toList.drop k) m = valL 16 s.data.toList 0)) (fun _ i => s.size - (intOf i).toNat)
  case atStart => exact ⟨0, 0, Nat.zero_le _, rfl, rfl, by omega, rfl⟩
  case round =>
    obtain ⟨k, m, hk, rfl, rfl, hm, he⟩ := hrel
    by_cases hlt : k < s.size
    · have hb := byte_lt s[k]
      have hd := fig_le s[k].toNat
      have he' := he.out
      rw [drop_cons s k hlt] at he'
      have hne : s.data.toList ≠ [] := by intro e; have := drop_cons s k hlt; rw [e] at this; simp at this
      have hv : valueL 16 s.data.toList = valL 16 s.data.toList 0 := by simp only [valueL]; rw [if_neg hne]
      have HV : Hid (valueL 16 s.data.toList = valL 16 s.data.toList 0) := hv
      have HE : Hid (valL 16 (s[k] :: s.data.toList.drop (k + 1)) m = valL 16 s.data.toList 0) := he'
      clear he' hv he hne
      have hstop : Hid (16 ≤ fig s[k].toNat ∨ (9223372036854775807 - fig s[k].toNat) / 16 < m → valueL 16 s.data.toList = none) := fun h => by rw [HV.out, ← HE.out, valL_stop h]
      have hgo : Hid (¬ 16 ≤ fig s[k].toNat → ¬ (9223372036854775807 - fig s[k].toNat) / 16 < m → valL 16 (s.data.toList.drop (k + 1)) (m * 16 + fig s[k].toNat) = valL 16 s.data.toList 0) := fun h1 h2 => by rw [← HE.out, valL_go h1 h2]
      clear HE HV
      have hfg := fun w => figure_any s[k].toNat w hb
      unfold figR at hfg
      generalize fig s[k].toNat = D at *
      by_cases h1 : 16 ≤ D
      · have e1 := nOut_none (hstop.out (.inl h1))
        have E1 : Hid _ := e1
        clear e1
        have hdd : 16 ≤ (if D = 16 then 99 else D) ∧ (if D = 16 then 99 else D) ≤ 99 := by split <;> omega
        generalize (if D = 16 then 99 else D) = D' at *
        obtain ⟨d1, d2⟩ := hdd
        go_wp2_with (go_at_call 122; refine (hfg _).mono ?_; rintro e w' ⟨rfl, rfl⟩)
        go_ret2
        exact ⟨E1.out, rfl⟩
      · rw [if_neg (by omega)] at hfg
        by_cases h2 : (9223372036854775807 - D) / 16 < m
        · have e1 := nOut_none (hstop.out (.inr h2))
          have E1 : Hid _ := e1
          clear e1
          go_wp2_with (go_at_call 122; refine (hfg _).mono ?_; rintro e w' ⟨rfl, rfl⟩)
          all_goals first | (exfalso; omega) | skip
          go_ret2
          exact ⟨E1.out, rfl⟩
        · have hg := hgo.out h1 h2
          have HG : Hid _ := hg
          clear hg hgo hstop
          have hle : m * 16 + D ≤ 9223372036854775807 := by omega
          go_wp2_with (go_at_call 122; refine (hfg _).mono ?_; rintro e w' ⟨rfl, rfl⟩)
          all_goals first | (exfalso; omega) | skip
          go_round
          case rel => exact ⟨k + 1, m * 16 + D, hlt, by go_num, by first | go_num | (congr 1; omega), hle, HG⟩
          case measure => simp [intOf]; omega
    · have : k = s.size := by omega
      subst this
      have he' := he.out
      rw [drop_end s s.size (Nat.le_refl _)] at he'
      simp only [valL] at he'
      have HE : Hid (some m = valL 16 s.data.toList 0) := he'
      clear he he'
      go_wp2
      go_ret2
      exact ⟨value_end 16 s m HE.out, rfl⟩
end Go.Proofs.YtodhagbeaobphaaGreatDoor
