/-
  The document's answers for numbers and names; condition: the table lies as the program's text lays it.
-/
import Derived.Test.YtodhagbeaobphaaGreatDoorLexF
namespace Go.Proofs.YtodhagbeaobphaaGreatDoor
open Go.RowKit

theorem u8eq (x : UInt8) (n : Nat) (h : n < 256) : (x = UInt8.ofNat n) = (x.toNat = n) := by
  rw [UInt8.toNat_inj.symm]
  simp
  omega
theorem head_of {s : ByteArray} (h : 0 < s.size) : ∃ l, s.data.toList = s[0] :: l := ⟨_, by have := drop_cons s 0 h; simpa using this⟩
theorem empty_of (s : ByteArray) : s.toList.isEmpty = decide (s.size = 0) := by
  rw [Lib.toList_data, Lib.size_eq]
  cases s.data.toList <;> simp
theorem num_bad {s : ByteArray} (h : 0 < s.size) (h0 : s[0].toNat = 39) (hq : quotedL s.data.toList = false) : num s = none := by
  obtain ⟨l, hl⟩ := head_of h
  rw [num, numL, hq]
  simp only [Bool.false_eq_true, if_false]
  rw [hl]
  have h48 : ¬ ((s[0] :: l).take 2 = [48, 120]) := by
    intro e
    have : s[0] = 48 := by
      cases l <;> simp at e
      exact e.1
    rw [this] at h0
    exact absurd h0 (by decide)
  rw [if_neg h48]
  simp only [valueL]
  rw [if_neg (by simp)]
  exact valL_stop (.inl (by rw [h0]; decide))
theorem num_ten {s : ByteArray} (hq : quotedL s.data.toList = false) (hx : Lib.hasPrefix s.data.toList [48, 120] = false) : num s = valueL 10 s.data.toList := by
  rw [prefix_two, decide_eq_false_iff_not] at hx
  rw [num, numL, hq, if_neg hx]; simp
theorem num_hex {s : ByteArray} (hq : quotedL s.data.toList = false) (hx : Lib.hasPrefix s.data.toList [48, 120] = true) : num s = valueL 16 (s.extract 2 s.size).data.toList := by
  rw [prefix_two, decide_eq_true_eq] at hx
  rw [num, numL, hq, if_pos hx, Lib.extract_data, List.take_of_length_le (l := s.data.toList.drop 2) (by rw [List.length_drop, ← Lib.size_eq]; omega)]; simp
theorem quoted_head {s : ByteArray} (h : 0 < s.size) (h0 : ¬ s[0].toNat = 39) : quotedL s.data.toList = false := by
  obtain ⟨l, hl⟩ := head_of h
  rw [hl]
  unfold quotedL
  rw [decide_eq_false_iff_not]
  rintro ⟨_, h1, _⟩
  simp at h1
  rw [h1] at h0
  exact h0 (by decide)
theorem prefix_at {s : ByteArray} (h : 1 < s.size) : Lib.hasPrefix s.data.toList [48, 120] = (decide ((s[0]'(Nat.lt_trans (by decide) h)).toNat = 48) && decide ((s[1]'h).toNat = 120)) := by
  rw [prefix_two]
  obtain ⟨⟨l⟩⟩ := s
  have hl : 1 < l.length := h
  match l, hl with
  | a :: b :: r, _ =>
    show decide ((a :: b :: r).take 2 = [48, 120]) = (decide (a.toNat = 48) && decide (b.toNat = 120))
    have k1 := u8eq a 48 (by decide)
    have k2 := u8eq b 120 (by decide)
    rw [Bool.eq_iff_iff]
    simp only [List.take_succ_cons, List.take_zero, List.cons.injEq, and_true, decide_eq_true_eq, Bool.and_eq_true]
    rw [← k1, ← k2]
    rfl
theorem prefix_short {s : ByteArray} (h : ¬ 1 < s.size) : Lib.hasPrefix s.data.toList [48, 120] = false := by
  rw [prefix_two, decide_eq_false_iff_not]
  intro e
  have := congrArg List.length e
  rw [List.length_take, ← Lib.size_eq] at this
  simp at this
  omega

set_option maxRecDepth 100000 in
set_option maxHeartbeats 1000000 in
theorem numberR_any (s : ByteArray) (w : World) (hs : s.size ≤ maxLen) :
    Calls Tryz.prog 44 #[.string s] w fun e w' => e = nOut (num s) ∧ w' = w := by
  have hx : (s.extract 2 s.size).size ≤ maxLen := by rw [ByteArray.size_extract]; omega
  have hv16 := fun w => whole16 (s.extract 2 s.size) w hx
  have hv10 := fun w => whole10 s w hs
  clear hx
  have hE := empty_of s
  unfold maxLen at hs
  by_cases hz : s.size = 0
  · have hn := num_ten (s := s) (quoted_len (by omega)) (prefix_short (by omega))
    rw [hn]
    have hz' : s.toList.isEmpty = true := by rw [hE]; simp [hz]
    have hz2 : ¬ 1 < (s.size : Int) := by omega
    generalize valueL 10 s.data.toList = V10 at *
    clear hn hE hz
    go_enter Tryz.func44, Tryz.ntmps44
    go_wp2_with (go_at_call 90; refine (hv10 _).mono ?_; rintro e w' ⟨he, rfl⟩; rw [nOut] at he; subst he)
    go_ret2
    exact ⟨rfl, rfl⟩
  · have l0 : 0 < s.size := by omega
    have hz' : s.toList.isEmpty = false := by rw [hE]; simp [hz]
    clear hE hz
    by_cases h0 : s[0].toNat = 39
    · have h0' : ((s[0].toNat : Int) == 39) = true := by simp; omega
      by_cases h3 : s.size = 3
      · have hl : 2 < s.size := by omega
        have l1 : 1 < s.size := by omega
        obtain ⟨q1, q2⟩ := quoted_facts hl h3
        have h3' : ((s.size : Int) != 3) = false := by simp; omega
        clear h3
        by_cases h2 : s[2].toNat = 39
        · have h2' : ((s[2].toNat : Int) != 39) = false := by simp; omega
          rw [h0, h2] at q1
          have b1 := byte_lt s[1]
          have hn : num s = if 32 ≤ s[1].toNat ∧ s[1].toNat ≤ 126 then some s[1].toNat else none := by
            rw [num, numL, q1, q2]; rfl
          clear h0 h2 q1 q2
          by_cases hr : 32 ≤ s[1].toNat ∧ s[1].toNat ≤ 126
          · rw [if_pos hr] at hn
            have e1 := nOut_some hn
            have E1 : Hid _ := e1
            obtain ⟨r1, r2⟩ := hr
            clear e1 hn
            go_enter Tryz.func44, Tryz.ntmps44
            go_wp2
            all_goals first | (exfalso; omega) | skip
            go_ret2
            exact ⟨E1.out, rfl⟩
          · rw [if_neg hr] at hn
            have e1 := nOut_none hn
            have E1 : Hid _ := e1
            clear e1 hn
            go_enter Tryz.func44, Tryz.ntmps44
            go_wp2
            all_goals first | (exfalso; omega) | (go_ret2; exact ⟨E1.out, rfl⟩)
        · have h2' : ((s[2].toNat : Int) != 39) = true := by simp; omega
          have hn := num_bad l0 h0 (by rw [q1]; simp; intro _; exact h2)
          have e1 := nOut_none hn
          have E1 : Hid _ := e1
          clear e1 hn h0 h2 q1 q2
          go_enter Tryz.func44, Tryz.ntmps44
          go_wp2
          all_goals first | (exfalso; omega) | (go_ret2; exact ⟨E1.out, rfl⟩)
      · have h3' : ((s.size : Int) != 3) = true := by simp; omega
        have hn := num_bad l0 h0 (quoted_len h3)
        have e1 := nOut_none hn
        have E1 : Hid _ := e1
        clear e1 hn h0 h3
        go_enter Tryz.func44, Tryz.ntmps44
        go_wp2
        all_goals first | (exfalso; omega) | (go_ret2; exact ⟨E1.out, rfl⟩)
    · have h0' : ((s[0].toNat : Int) == 39) = false := beq_int_false (by omega)
      have hq := quoted_head l0 h0
      clear h0
      by_cases l1 : 1 < s.size
      · have hp := prefix_at l1
        have l1' : (1 : Int) < s.size := by omega
        by_cases h48 : s[0].toNat = 48
        · have h48' : ((s[0].toNat : Int) == 48) = true := by simp; omega
          by_cases h120 : s[1].toNat = 120
          · have h120' : ((s[1].toNat : Int) == 120) = true := by simp; omega
            rw [h48, h120] at hp
            have hn := num_hex hq hp
            rw [hn]
            generalize valueL 16 (s.extract 2 s.size).data.toList = V16 at *
            clear hn hq hp h48 h120
            go_enter Tryz.func44, Tryz.ntmps44
            go_wp2_with (go_at_call 90; refine (hv16 _).mono ?_; rintro e w' ⟨he, rfl⟩; rw [nOut] at he; subst he)
            go_ret2
            exact ⟨rfl, rfl⟩
          · have h120' : ((s[1].toNat : Int) == 120) = false := beq_int_false (by omega)
            have hn := num_ten hq (by rw [hp]; simp; intro _; exact h120)
            rw [hn]
            generalize valueL 10 s.data.toList = V10 at *
            clear hn hq hp h48 h120
            go_enter Tryz.func44, Tryz.ntmps44
            go_wp2_with (go_at_call 90; refine (hv10 _).mono ?_; rintro e w' ⟨he, rfl⟩; rw [nOut] at he; subst he)
            go_ret2
            exact ⟨rfl, rfl⟩
        · have h48' : ((s[0].toNat : Int) == 48) = false := beq_int_false (by omega)
          have hn := num_ten hq (by rw [hp]; simp; intro h; exact absurd h h48)
          rw [hn]
          generalize valueL 10 s.data.toList = V10 at *
          clear hn hq hp h48
          go_enter Tryz.func44, Tryz.ntmps44
          go_wp2_with (go_at_call 90; refine (hv10 _).mono ?_; rintro e w' ⟨he, rfl⟩; rw [nOut] at he; subst he)
          go_ret2
          exact ⟨rfl, rfl⟩
      · have l1' : ¬ (1 : Int) < s.size := by omega
        have hn := num_ten hq (prefix_short l1)
        rw [hn]
        generalize valueL 10 s.data.toList = V10 at *
        clear hn hq
        go_enter Tryz.func44, Tryz.ntmps44
        go_wp2_with (go_at_call 90; refine (hv10 _).mono ?_; rintro e w' ⟨he, rfl⟩; rw [nOut] at he; subst he)
        go_ret2
        exact ⟨rfl, rfl⟩
end Go.Proofs.YtodhagbeaobphaaGreatDoor
