/-
  Numbers and names, as whole texts; condition: the table lies as the program's text lays it.
-/
import Derived.Test.YtekjfddcbcijdaaGreatDoorLexC
namespace Go.Proofs.YtekjfddcbcijdaaGreatDoor
open Go.RowKit

theorem quoted_facts {s : ByteArray} (hl : 2 < s.size) (h : s.size = 3) : quotedL s.data.toList = (decide ((s[0]'(Nat.lt_trans (by decide) hl)).toNat = 39) && decide ((s[2]'hl).toNat = 39)) ∧ s.data.toList.getD 1 0 = s[1]'(Nat.lt_trans (by decide) hl) := by
  obtain ⟨⟨l⟩⟩ := s
  have hl : l.length = 3 := h
  match l, hl with
  | [a, b, c], _ =>
    refine ⟨?_, rfl⟩
    show quotedL [a, b, c] = (decide (a.toNat = 39) && decide (c.toNat = 39))
    have k : ∀ x : UInt8, (x = 39) = (x.toNat = 39) := fun x => by
      rw [UInt8.toNat_inj.symm]; rfl
    simp [quotedL, k]
theorem quoted_len {s : ByteArray} (h : s.size ≠ 3) : quotedL s.data.toList = false := by
  have : s.data.toList.length ≠ 3 := by rw [← Lib.size_eq]; exact h
  unfold quotedL
  rw [decide_eq_false_iff_not]
  exact fun hh => this hh.1
theorem prefix_two (l : List UInt8) : Lib.hasPrefix l [48, 120] = decide (l.take 2 = [48, 120]) := by
  rw [← Lib.hasPrefix_of_take]
  match l with
  | [] => rfl
  | [a] => simp
  | a :: b :: r =>
    have k : ∀ x y : UInt8, (x == y) = decide (x = y) := fun _ _ => rfl
    simp [k]

set_option maxRecDepth 100000 in
set_option maxHeartbeats 1000000 in
theorem number_any (s : ByteArray) (w : World) (hs : s.size ≤ maxLen) :
    Calls Tryz.prog 69 #[.string s] w fun e w' => e = nOut (num s) ∧ w' = w := by
  have rest : quotedL s.data.toList = false → Hid (nOut (num s) = if Lib.hasPrefix s.data.toList [48, 120] then nOut (valueL 16 (s.extract 2 s.size).data.toList) else nOut (valueL 10 s.data.toList)) := fun h => by
    show _ = _
    rw [num, numL, h, prefix_two, Lib.extract_data]
    simp only [Bool.false_eq_true, if_false, decide_eq_true_eq]
    rw [List.take_of_length_le (l := s.data.toList.drop 2) (by rw [List.length_drop, ← Lib.size_eq]; omega)]
    split <;> rfl
  have hx : (s.extract 2 s.size).size ≤ maxLen := by rw [ByteArray.size_extract]; omega
  have hp2 : ((⟨#[48, 120]⟩ : ByteArray)).size ≤ maxLen := by decide
  have hv16 := fun w => value16 (s.extract 2 s.size) w hx
  have hv10 := fun w => value10 s w hs
  have hcut := fun w => cutP_any s ⟨#[48, 120]⟩ w hs hp2
  have hsz : (⟨#[48, 120]⟩ : ByteArray).size = 2 := rfl
  have hdl : (⟨#[48, 120]⟩ : ByteArray).data.toList = [48, 120] := rfl
  rw [hsz, hdl] at hcut
  unfold maxLen at hs
  have tail : quotedL s.data.toList = false → Calls Tryz.prog 69 #[.string s] w fun e w' => e = nOut (num s) ∧ w' = w := fun hq => by
    have hr := rest hq
    clear rest
    generalize num s = R at hr ⊢
    generalize valueL 10 s.data.toList = V10 at *
    generalize valueL 16 (s.extract 2 s.size).data.toList = V16 at *
    cases hpre : Lib.hasPrefix s.data.toList [48, 120] with
    | true =>
      rw [hpre] at hr hcut
      simp only [if_true] at hr hcut
      by_cases h3 : s.size = 3
      · have hl : 2 < s.size := by omega
        have l0 : 0 < s.size := Nat.lt_trans (by decide) hl
        obtain ⟨q1, q2⟩ := quoted_facts hl h3
        rw [hq] at q1
        have h3' : ((s.size : Int) == 3) = true := by simp; omega
        clear h3
        by_cases h0 : s[0].toNat = 39
        · have h2 : ¬ s[2].toNat = 39 := fun h => by rw [h0, h] at q1; simp at q1
          have h2' : ((s[2].toNat : Int) == 39) = false := beq_int_false (by omega)
          have h0' : ((s[0].toNat : Int) == 39) = true := by simp; omega
          clear h0 h2 q1 q2 hq
          go_enter Tryz.func69, Tryz.ntmps69
          go_wp2_with (first | (go_at_call 78; refine (hcut _).mono ?_; rintro e w' ⟨rfl, rfl⟩) | (go_at_call 79; refine (hv16 _).mono ?_; rintro e w' ⟨he, rfl⟩; rw [nOut] at he; subst he))
          go_ret2
          exact ⟨by rw [hr.out]; rfl, rfl⟩
        · have h0' : ((s[0].toNat : Int) == 39) = false := beq_int_false (by omega)
          clear h0 q1 q2 hq
          go_enter Tryz.func69, Tryz.ntmps69
          go_wp2_with (first | (go_at_call 78; refine (hcut _).mono ?_; rintro e w' ⟨rfl, rfl⟩) | (go_at_call 79; refine (hv16 _).mono ?_; rintro e w' ⟨he, rfl⟩; rw [nOut] at he; subst he))
          go_ret2
          exact ⟨by rw [hr.out]; rfl, rfl⟩
      · have h3' : ((s.size : Int) == 3) = false := beq_int_false (by omega)
        go_enter Tryz.func69, Tryz.ntmps69
        go_wp2_with (first | (go_at_call 78; refine (hcut _).mono ?_; rintro e w' ⟨rfl, rfl⟩) | (go_at_call 79; refine (hv16 _).mono ?_; rintro e w' ⟨he, rfl⟩; rw [nOut] at he; subst he))
        go_ret2
        exact ⟨by rw [hr.out]; rfl, rfl⟩
    | false =>
      rw [hpre] at hr hcut
      simp only [Bool.false_eq_true, if_false] at hr hcut
      by_cases h3 : s.size = 3
      · have hl : 2 < s.size := by omega
        have l0 : 0 < s.size := Nat.lt_trans (by decide) hl
        obtain ⟨q1, q2⟩ := quoted_facts hl h3
        rw [hq] at q1
        have h3' : ((s.size : Int) == 3) = true := by simp; omega
        clear h3
        by_cases h0 : s[0].toNat = 39
        · have h2 : ¬ s[2].toNat = 39 := fun h => by rw [h0, h] at q1; simp at q1
          have h2' : ((s[2].toNat : Int) == 39) = false := beq_int_false (by omega)
          have h0' : ((s[0].toNat : Int) == 39) = true := by simp; omega
          clear h0 h2 q1 q2 hq
          go_enter Tryz.func69, Tryz.ntmps69
          go_wp2_with (first | (go_at_call 78; refine (hcut _).mono ?_; rintro e w' ⟨rfl, rfl⟩) | (go_at_call 79; refine (hv10 _).mono ?_; rintro e w' ⟨he, rfl⟩; rw [nOut] at he; subst he))
          go_ret2
          exact ⟨by rw [hr.out]; rfl, rfl⟩
        · have h0' : ((s[0].toNat : Int) == 39) = false := beq_int_false (by omega)
          clear h0 q1 q2 hq
          go_enter Tryz.func69, Tryz.ntmps69
          go_wp2_with (first | (go_at_call 78; refine (hcut _).mono ?_; rintro e w' ⟨rfl, rfl⟩) | (go_at_call 79; refine (hv10 _).mono ?_; rintro e w' ⟨he, rfl⟩; rw [nOut] at he; subst he))
          go_ret2
          exact ⟨by rw [hr.out]; rfl, rfl⟩
      · have h3' : ((s.size : Int) == 3) = false := beq_int_false (by omega)
        go_enter Tryz.func69, Tryz.ntmps69
        go_wp2_with (first | (go_at_call 78; refine (hcut _).mono ?_; rintro e w' ⟨rfl, rfl⟩) | (go_at_call 79; refine (hv10 _).mono ?_; rintro e w' ⟨he, rfl⟩; rw [nOut] at he; subst he))
        go_ret2
        exact ⟨by rw [hr.out]; rfl, rfl⟩
  by_cases h3 : s.size = 3
  · have hl : 2 < s.size := by omega
    have l0 : 0 < s.size := Nat.lt_trans (by decide) hl
    have l1 : 1 < s.size := Nat.lt_trans (by decide) hl
    obtain ⟨q1, q2⟩ := quoted_facts hl h3
    have h3' : ((s.size : Int) == 3) = true := by simp; omega
    clear h3
    by_cases hb : s[0].toNat = 39 ∧ s[2].toNat = 39
    · have h0' : ((s[0].toNat : Int) == 39) = true := by simp; omega
      have h2' : ((s[2].toNat : Int) == 39) = true := by simp; omega
      rw [hb.1, hb.2] at q1
      have hn : num s = if 32 ≤ s[1].toNat ∧ s[1].toNat ≤ 126 then some s[1].toNat else none := by
        rw [num, numL, q1, q2]; rfl
      have b1 := byte_lt s[1]
      have hbn := fun w => byteNumber_any s[1].toNat w b1
      rw [← hn] at hbn
      generalize num s = R at hbn ⊢
      clear hb q1 q2 rest tail hn
      go_enter Tryz.func69, Tryz.ntmps69
      go_wp2_with (go_at_call 77; refine (hbn _).mono ?_; rintro e w' ⟨he, rfl⟩; rw [nOut] at he; subst he)
      go_ret2
      exact ⟨rfl, rfl⟩
    · refine tail ?_
      rw [q1]
      simp
      omega
  · exact tail (quoted_len h3)
end Go.Proofs.YtekjfddcbcijdaaGreatDoor
