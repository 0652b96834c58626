/-
  Numbers and names, as whole texts; condition: the table lies as the program's text lays it.
-/
import Derived.Test.YtekjfddcbcijdaaGreatDoorLexB
namespace Go.Proofs.YtekjfddcbcijdaaGreatDoor
open Go.RowKit

theorem fig_le (n : Nat) : fig n ≤ 16 := by
  unfold fig isDig
  simp only [decide_eq_true_eq]
  repeat (first | omega | split)

theorem ret_int {k : IntKind} {a b : Int} (h : a = b) : Ending.returned (.int k a) = .returned (.int k b) := by rw [h]

set_option maxRecDepth 100000 in
theorem digitOf_any (c : Nat) (w : World) (hc : c < 256) :
    Calls Tryz.prog 89 #[.int .u8 c] w fun e w' => e = .returned (.int .i64 (fig c)) ∧ w' = w := by
  unfold fig isDig
  simp only [decide_eq_true_eq]
  by_cases h1 : 48 ≤ c ∧ c ≤ 57
  · rw [if_pos h1]
    obtain ⟨a, b⟩ := h1
    go_enter Tryz.func89, Tryz.ntmps89
    go_wp2
    go_ret
    exact ⟨ret_int (by omega), rfl⟩
  · rw [if_neg h1]
    by_cases h2 : 97 ≤ c ∧ c ≤ 102
    · rw [if_pos h2]
      obtain ⟨a, b⟩ := h2
      clear h1
      go_enter Tryz.func89, Tryz.ntmps89
      go_wp2
      go_ret
      exact ⟨ret_int (by omega), rfl⟩
    · rw [if_neg h2]
      by_cases h3 : 65 ≤ c ∧ c ≤ 70
      · rw [if_pos h3]
        obtain ⟨a, b⟩ := h3
        clear h1 h2
        go_enter Tryz.func89, Tryz.ntmps89
        go_wp2
        go_ret
        exact ⟨ret_int (by omega), rfl⟩
      · rw [if_neg h3]
        go_enter Tryz.func89, Tryz.ntmps89
        go_wp2
        all_goals first | (exfalso; omega) | (go_ret; exact ⟨rfl, rfl⟩)

/-- A number, if there is one. -/
def nOut (o : Option Nat) : Ending := .returned (.tuple #[.int .i64 (o.getD 0 : Nat), .bool o.isSome])
theorem nOut_none {o : Option Nat} (h : o = none) : Ending.returned (.tuple #[.int .i64 0, .bool false]) = nOut o := by subst h; rfl
theorem nOut_some {o : Option Nat} {n : Nat} (h : o = some n) : Ending.returned (.tuple #[.int .i64 n, .bool true]) = nOut o := by subst h; rfl

set_option maxRecDepth 100000 in
theorem byteNumber_any (c : Nat) (w : World) (hc : c < 256) :
    Calls Tryz.prog 77 #[.int .u8 c] w fun e w' => e = nOut (if 32 ≤ c ∧ c ≤ 126 then some c else none) ∧ w' = w := by
  by_cases h : 32 ≤ c ∧ c ≤ 126
  · rw [if_pos h]
    obtain ⟨a, b⟩ := h
    go_enter Tryz.func77, Tryz.ntmps77
    go_wp2
    go_ret2
    exact ⟨rfl, rfl⟩
  · rw [if_neg h]
    go_enter Tryz.func77, Tryz.ntmps77
    go_wp2
    all_goals first | (exfalso; omega) | (go_ret2; exact ⟨rfl, rfl⟩)

theorem valL_stop {b : Nat} {c : UInt8} {l : List UInt8} {n : Nat} (h : b ≤ fig c.toNat ∨ (9223372036854775807 - fig c.toNat) / b < n) : valL b (c :: l) n = none := by
  simp only [valL]; rw [if_pos h]
theorem valL_go {b : Nat} {c : UInt8} {l : List UInt8} {n : Nat} (h1 : ¬ b ≤ fig c.toNat) (h2 : ¬ (9223372036854775807 - fig c.toNat) / b < n) : valL b (c :: l) n = valL b l (n * b + fig c.toNat) := by
  simp only [valL]; rw [if_neg (by omega)]


theorem value_end (b : Nat) (s : ByteArray) (m : Nat) (h : some m = valL b s.data.toList 0) : Ending.returned (.tuple #[.int .i64 m, .bool (!s.toList.isEmpty)]) = nOut (valueL b s.data.toList) := by
  rw [Lib.toList_data]
  by_cases he : s.data.toList = []
  · rw [he] at h ⊢
    simp [valL] at h
    subst h
    rfl
  · simp only [valueL]
    rw [if_neg he, ← h]
    cases hl : s.data.toList with
    | nil => exact absurd hl he
    | cons c l => rfl

set_option maxRecDepth 100000 in
set_option maxHeartbeats 1000000 in
theorem value10 (s : ByteArray) (w : World) (hs : s.size ≤ maxLen) :
    Calls Tryz.prog 79 #[.string s, .int .i64 10] w fun e w' => e = nOut (valueL 10 s.data.toList) ∧ w' = w := by
  unfold maxLen at hs
  go_enter Tryz.func79, Tryz.ntmps79
  go_wp2
  go_loop [6, 11] (fun n i => ∃ k m : Nat, k ≤ s.size ∧ i = .int .i64 k ∧ n = .int .i64 m ∧ m ≤ 9223372036854775807 ∧ Hid (valL 10 (s.data.toList.drop k) m = valL 10 s.data.toList 0)) (fun _ i => s.size - (intOf i).toNat)
  case atStart => exact ⟨0, 0, Nat.zero_le _, rfl, rfl, by omega, rfl⟩
  case round =>
    obtain ⟨k, m, hk, rfl, rfl, hm, he⟩ := hrel
    by_cases hlt : k < s.size
    · have hb := byte_lt s[k]
      have hd := fig_le s[k].toNat
      have he' := he.out
      rw [drop_cons s k hlt] at he'
      have hne : s.data.toList ≠ [] := by intro e; have := drop_cons s k hlt; rw [e] at this; simp at this
      have hv : valueL 10 s.data.toList = valL 10 s.data.toList 0 := by simp only [valueL]; rw [if_neg hne]
      have HV : Hid (valueL 10 s.data.toList = valL 10 s.data.toList 0) := hv
      have HE : Hid (valL 10 (s[k] :: s.data.toList.drop (k + 1)) m = valL 10 s.data.toList 0) := he'
      clear he' hv he hne
      have hstop : Hid (10 ≤ fig s[k].toNat ∨ (9223372036854775807 - fig s[k].toNat) / 10 < m → valueL 10 s.data.toList = none) := fun h => by rw [HV.out, ← HE.out, valL_stop h]
      have hgo : Hid (¬ 10 ≤ fig s[k].toNat → ¬ (9223372036854775807 - fig s[k].toNat) / 10 < m → valL 10 (s.data.toList.drop (k + 1)) (m * 10 + fig s[k].toNat) = valL 10 s.data.toList 0) := fun h1 h2 => by rw [← HE.out, valL_go h1 h2]
      clear HE HV
      generalize hD : fig s[k].toNat = D at *
      by_cases h1 : 10 ≤ D
      · have e1 := nOut_none (hstop.out (.inl h1))
        have E1 : Hid _ := e1
        clear e1
        go_wp2_with (go_at_call 89; refine (digitOf_any s[k].toNat _ hb).mono ?_; rintro e w' ⟨rfl, rfl⟩; rw [hD])
        go_ret2
        exact ⟨E1.out, rfl⟩
      · by_cases h2 : (9223372036854775807 - D) / 10 < m
        · have e1 := nOut_none (hstop.out (.inr h2))
          have E1 : Hid _ := e1
          clear e1
          go_wp2_with (go_at_call 89; refine (digitOf_any s[k].toNat _ hb).mono ?_; rintro e w' ⟨rfl, rfl⟩; rw [hD])
          all_goals first | (exfalso; omega) | skip
          go_ret2
          exact ⟨E1.out, rfl⟩
        · have hg := hgo.out h1 h2
          have HG : Hid _ := hg
          clear hg hgo hstop
          have hle : m * 10 + D ≤ 9223372036854775807 := by omega
          go_wp2_with (go_at_call 89; refine (digitOf_any s[k].toNat _ hb).mono ?_; rintro e w' ⟨rfl, rfl⟩; rw [hD])
          all_goals first | (exfalso; omega) | skip
          go_round
          case rel => exact ⟨k + 1, m * 10 + D, hlt, by go_num, by go_num, hle, HG⟩
          case measure => simp [intOf]; omega
    · have : k = s.size := by omega
      subst this
      have he' := he.out
      rw [drop_end s s.size (Nat.le_refl _)] at he'
      simp only [valL] at he'
      have HE : Hid (some m = valL 10 s.data.toList 0) := he'
      clear he he'
      go_wp2
      go_ret2
      exact ⟨value_end 10 s m HE.out, rfl⟩
set_option maxRecDepth 100000 in
set_option maxHeartbeats 1000000 in
theorem value16 (s : ByteArray) (w : World) (hs : s.size ≤ maxLen) :
    Calls Tryz.prog 79 #[.string s, .int .i64 16] w fun e w' => e = nOut (valueL 16 s.data.toList) ∧ w' = w := by
  unfold maxLen at hs
  go_enter Tryz.func79, Tryz.ntmps79
  go_wp2
  go_loop [6, 11] (fun n i => ∃ k m : Nat, k ≤ s.size ∧ i = .int .i64 k ∧ n = .int .i64 m ∧ m ≤ 9223372036854775807 ∧ Hid (valL 16 (s.data.toList.drop k) m = valL 16 s.data.toList 0)) (fun _ i => s.size - (intOf i).toNat)
  case atStart => exact ⟨0, 0, Nat.zero_le _, rfl, rfl, by omega, rfl⟩
  case round =>
    obtain ⟨k, m, hk, rfl, rfl, hm, he⟩ := hrel
    by_cases hlt : k < s.size
    · have hb := byte_lt s[k]
      have hd := fig_le s[k].toNat
      have he' := he.out
      rw [drop_cons s k hlt] at he'
      have hne : s.data.toList ≠ [] := by intro e; have := drop_cons s k hlt; rw [e] at this; simp at this
      have hv : valueL 16 s.data.toList = valL 16 s.data.toList 0 := by simp only [valueL]; rw [if_neg hne]
      have HV : Hid (valueL 16 s.data.toList = valL 16 s.data.toList 0) := hv
      have HE : Hid (valL 16 (s[k] :: s.data.toList.drop (k + 1)) m = valL 16 s.data.toList 0) := he'
      clear he' hv he hne
      have hstop : Hid (16 ≤ fig s[k].toNat ∨ (9223372036854775807 - fig s[k].toNat) / 16 < m → valueL 16 s.data.toList = none) := fun h => by rw [HV.out, ← HE.out, valL_stop h]
      have hgo : Hid (¬ 16 ≤ fig s[k].toNat → ¬ (9223372036854775807 - fig s[k].toNat) / 16 < m → valL 16 (s.data.toList.drop (k + 1)) (m * 16 + fig s[k].toNat) = valL 16 s.data.toList 0) := fun h1 h2 => by rw [← HE.out, valL_go h1 h2]
      clear HE HV
      generalize hD : fig s[k].toNat = D at *
      by_cases h1 : 16 ≤ D
      · have e1 := nOut_none (hstop.out (.inl h1))
        have E1 : Hid _ := e1
        clear e1
        go_wp2_with (go_at_call 89; refine (digitOf_any s[k].toNat _ hb).mono ?_; rintro e w' ⟨rfl, rfl⟩; rw [hD])
        go_ret2
        exact ⟨E1.out, rfl⟩
      · by_cases h2 : (9223372036854775807 - D) / 16 < m
        · have e1 := nOut_none (hstop.out (.inr h2))
          have E1 : Hid _ := e1
          clear e1
          go_wp2_with (go_at_call 89; refine (digitOf_any s[k].toNat _ hb).mono ?_; rintro e w' ⟨rfl, rfl⟩; rw [hD])
          all_goals first | (exfalso; omega) | skip
          go_ret2
          exact ⟨E1.out, rfl⟩
        · have hg := hgo.out h1 h2
          have HG : Hid _ := hg
          clear hg hgo hstop
          have hle : m * 16 + D ≤ 9223372036854775807 := by omega
          go_wp2_with (go_at_call 89; refine (digitOf_any s[k].toNat _ hb).mono ?_; rintro e w' ⟨rfl, rfl⟩; rw [hD])
          all_goals first | (exfalso; omega) | skip
          go_round
          case rel => exact ⟨k + 1, m * 16 + D, hlt, by go_num, by go_num, hle, HG⟩
          case measure => simp [intOf]; omega
    · have : k = s.size := by omega
      subst this
      have he' := he.out
      rw [drop_end s s.size (Nat.le_refl _)] at he'
      simp only [valL] at he'
      have HE : Hid (some m = valL 16 s.data.toList 0) := he'
      clear he he'
      go_wp2
      go_ret2
      exact ⟨value_end 16 s m HE.out, rfl⟩

/-- The number that a text is. -/
def num (s : ByteArray) : Option Nat := numL s.data.toList

set_option linter.unusedVariables false in
theorem hasPrefix_any (s p : ByteArray) (w : World) (hs : s.size ≤ maxLen) (hp : p.size ≤ maxLen) :
    Calls Tryz.prog 66 #[.string s, .string p] w fun e w' => e = .returned (.bool (Lib.hasPrefix s.data.toList p.data.toList)) ∧ w' = w := by
  unfold maxLen at hs hp
  rw [← Lib.hasPrefix_raw]
  by_cases h : p.size ≤ s.size
  · go_enter Tryz.func66, Tryz.ntmps66
    go_wp2
    go_ret
    exact ⟨by simp [h], rfl⟩
  · go_enter Tryz.func66, Tryz.ntmps66
    go_wp2
    go_ret
    exact ⟨by simp [h], rfl⟩

theorem cutPrefix_any (s p : ByteArray) (w : World) (hs : s.size ≤ maxLen) (hp : p.size ≤ maxLen) :
    Calls Tryz.prog 88 #[.string s, .string p] w fun e w' => e = .returned (.tuple #[.string (if Lib.hasPrefix s.data.toList p.data.toList then s.extract p.size s.size else s), .bool (Lib.hasPrefix s.data.toList p.data.toList)]) ∧ w' = w := by
  cases h : Lib.hasPrefix s.data.toList p.data.toList with
  | false =>
    unfold maxLen at hs hp
    go_enter Tryz.func88, Tryz.ntmps88
    go_wp2_with (go_at_call 66; refine (hasPrefix_any s p _ hs hp).mono ?_; rintro e w' ⟨rfl, rfl⟩; rw [h])
    go_ret2
    exact ⟨rfl, rfl⟩
  | true =>
    have hl : p.size ≤ s.size := by
      rw [← Lib.hasPrefix_raw] at h
      simp at h
      exact h.1
    unfold maxLen at hs hp
    go_enter Tryz.func88, Tryz.ntmps88
    go_wp2_with (go_at_call 66; refine (hasPrefix_any s p _ hs hp).mono ?_; rintro e w' ⟨rfl, rfl⟩; rw [h])
    go_ret2
    exact ⟨rfl, rfl⟩

theorem cutP_any (s p : ByteArray) (w : World) (hs : s.size ≤ maxLen) (hp : p.size ≤ maxLen) :
    Calls Tryz.prog 78 #[.string s, .string p] w fun e w' => e = .returned (.tuple #[.string (if Lib.hasPrefix s.data.toList p.data.toList then s.extract p.size s.size else s), .bool (Lib.hasPrefix s.data.toList p.data.toList)]) ∧ w' = w := by
  go_enter Tryz.func78, Tryz.ntmps78
  go_wp2_with (go_at_call 88; refine (cutPrefix_any s p _ hs hp).mono ?_; rintro e w' ⟨rfl, rfl⟩)
  all_goals go_ret2
  all_goals exact ⟨rfl, rfl⟩

end Go.Proofs.YtekjfddcbcijdaaGreatDoor
