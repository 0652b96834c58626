/-
  Names, numbers, single bytes: facts of lists; no condition.
-/
import Derived.Test.YtekjfddcbcijdaaGreatDoorLexD
namespace Go.Proofs.YtekjfddcbcijdaaGreatDoor
open Go.RowKit
theorem ret_bool {a b : Bool} (h : a = b) : Ending.returned (.bool a) = .returned (.bool b) := by rw [h]
theorem u8eq (x : UInt8) (n : Nat) (h : n < 256) : (x = UInt8.ofNat n) = (x.toNat = n) := by
  rw [UInt8.toNat_inj.symm]
  simp
  omega
theorem head_of {s : ByteArray} (h : 0 < s.size) : ∃ l, s.data.toList = s[0] :: l := ⟨_, by have := drop_cons s 0 h; simpa using this⟩
theorem empty_of (s : ByteArray) : s.toList.isEmpty = decide (s.size = 0) := by
  rw [Lib.toList_data, Lib.size_eq]
  cases s.data.toList <;> simp
theorem num_bad {s : ByteArray} (h : 0 < s.size) (h0 : s[0].toNat = 39) (hq : quotedL s.data.toList = false) : num s = none := by
  obtain ⟨l, hl⟩ := head_of h
  rw [num, numL, hq]
  simp only [Bool.false_eq_true, if_false]
  rw [hl]
  have h48 : ¬ ((s[0] :: l).take 2 = [48, 120]) := by
    intro e
    have : s[0] = 48 := by
      cases l <;> simp at e
      exact e.1
    rw [this] at h0
    exact absurd h0 (by decide)
  rw [if_neg h48]
  simp only [valueL]
  rw [if_neg (by simp)]
  exact valL_stop (.inl (by rw [h0]; decide))
theorem num_ten {s : ByteArray} (hq : quotedL s.data.toList = false) (hx : Lib.hasPrefix s.data.toList [48, 120] = false) : num s = valueL 10 s.data.toList := by
  rw [prefix_two, decide_eq_false_iff_not] at hx
  rw [num, numL, hq, if_neg hx]; simp
theorem num_hex {s : ByteArray} (hq : quotedL s.data.toList = false) (hx : Lib.hasPrefix s.data.toList [48, 120] = true) : num s = valueL 16 (s.extract 2 s.size).data.toList := by
  rw [prefix_two, decide_eq_true_eq] at hx
  rw [num, numL, hq, if_pos hx, Lib.extract_data, List.take_of_length_le (l := s.data.toList.drop 2) (by rw [List.length_drop, ← Lib.size_eq]; omega)]; simp
theorem quoted_head {s : ByteArray} (h : 0 < s.size) (h0 : ¬ s[0].toNat = 39) : quotedL s.data.toList = false := by
  obtain ⟨l, hl⟩ := head_of h
  rw [hl]
  unfold quotedL
  rw [decide_eq_false_iff_not]
  rintro ⟨_, h1, _⟩
  simp at h1
  rw [h1] at h0
  exact h0 (by decide)
theorem prefix_at {s : ByteArray} (h : 1 < s.size) : Lib.hasPrefix s.data.toList [48, 120] = (decide ((s[0]'(Nat.lt_trans (by decide) h)).toNat = 48) && decide ((s[1]'h).toNat = 120)) := by
  rw [prefix_two]
  obtain ⟨⟨l⟩⟩ := s
  have hl : 1 < l.length := h
  match l, hl with
  | a :: b :: r, _ =>
    show decide ((a :: b :: r).take 2 = [48, 120]) = (decide (a.toNat = 48) && decide (b.toNat = 120))
    have k1 := u8eq a 48 (by decide)
    have k2 := u8eq b 120 (by decide)
    rw [Bool.eq_iff_iff]
    simp only [List.take_succ_cons, List.take_zero, List.cons.injEq, and_true, decide_eq_true_eq, Bool.and_eq_true]
    rw [← k1, ← k2]
    rfl
theorem prefix_short {s : ByteArray} (h : ¬ 1 < s.size) : Lib.hasPrefix s.data.toList [48, 120] = false := by
  rw [prefix_two, decide_eq_false_iff_not]
  intro e
  have := congrArg List.length e
  rw [List.length_take, ← Lib.size_eq] at this
  simp at this
  omega

def name (s : ByteArray) : Bool := nameL s.data.toList
theorem kind_let (n : Nat) : kindN n = 2 ↔ isLet n = true := by
  simp only [kindN, isBl, isLet, isDig, decide_eq_true_eq]
  repeat (first | omega | split)
theorem name_nil {s : ByteArray} (h : s.size = 0) : name s = false := by
  have : s.data.toList = [] := by rw [← List.length_eq_zero_iff, ← Lib.size_eq]; exact h
  rw [name, this]; rfl
theorem name_eq {s : ByteArray} (h : 0 < s.size) : name s = (isLet s[0].toNat && decide (rnE s 0 = s.size) && !wrd s) := by
  obtain ⟨l, hl⟩ := head_of h
  rw [name, wrd, rnE, Lib.size_eq s, List.drop_zero]
  rw [hl]
  simp [nameL]

end Go.Proofs.YtekjfddcbcijdaaGreatDoor
