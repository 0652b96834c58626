/-
  The line and the column of a place, by the program and by the document; no condition.
-/
import Derived.Test.YtcfhngfogclheaaDoorLexH
namespace Go.Proofs.YtcfhngfogclheaaDoor
open Go.RowKit

def lineOf (l : List UInt8) : Nat := 1 + Lib.countByte l 10
def colOf (l : List UInt8) : Nat := l.foldl (fun b c => if c.toNat = 10 then 1 else b + 1) 1
theorem col_snoc (l : List UInt8) (c : UInt8) : colOf (l ++ [c]) = if c.toNat = 10 then 1 else colOf l + 1 := by simp [colOf]
theorem line_snoc (l : List UInt8) (c : UInt8) : lineOf (l ++ [c]) = if c.toNat = 10 then lineOf l + 1 else lineOf l := by
  have k := u8eq c 10 (by decide)
  unfold lineOf Lib.countByte
  rw [List.count_append]
  by_cases h : c.toNat = 10
  · rw [if_pos h]
    have h' : c = UInt8.ofNat 10 := by rw [k]; exact h
    rw [h']; rfl
  · rw [if_neg h]
    have h' : ¬ c = UInt8.ofNat 10 := by rw [k]; exact h
    have : List.count 10 [c] = 0 := List.count_eq_zero.2 (by simp; exact fun e => h' e.symm)
    omega
theorem col_fold (l : List UInt8) : ∀ b, 1 ≤ b → 1 ≤ l.foldl (fun b c => if c.toNat = 10 then 1 else b + 1) b ∧ l.foldl (fun b c => if c.toNat = 10 then 1 else b + 1) b ≤ l.length + b := by
  induction l with
  | nil => intro b hb; simp; exact hb
  | cons c l ih =>
    intro b hb
    simp only [List.foldl_cons, List.length_cons]
    split
    · have := ih 1 (by omega); omega
    · have := ih (b + 1) (by omega); omega
theorem col_le (l : List UInt8) : 1 ≤ colOf l ∧ colOf l ≤ l.length + 1 := col_fold l 1 (Nat.le_refl _)
theorem line_le (l : List UInt8) : 1 ≤ lineOf l ∧ lineOf l ≤ l.length + 1 := by
  unfold lineOf Lib.countByte
  have := List.count_le_length (a := (10 : UInt8)) (l := l)
  omega
theorem take_snoc (s : ByteArray) (k : Nat) (h : k < s.size) : s.data.toList.take (k + 1) = s.data.toList.take k ++ [s[k]] := by
  rw [List.take_succ_eq_append_getElem (by simpa using h)]; rfl

theorem take_full (s : ByteArray) : s.data.toList.take s.size = s.data.toList := by
  rw [List.take_of_length_le]; rw [← Lib.size_eq]; exact Nat.le_refl _

theorem count_any (s : ByteArray) (w : World) :
    Calls Tryd.prog 36 #[.string s, .string ⟨#[10]⟩] w fun e w' => e = .returned (.int .i64 (Lib.countByte s.data.toList 10)) ∧ w' = w := by
  go_enter Tryd.func36, Tryd.ntmps36
  go_wp2
  rw [run_callFunc_extern Tryd.func46 (by kernel_rfl) (by kernel_rfl) (by kernel_rfl) (e := Extern.BytealgCount.count) (by kernel_rfl), Lib.run_countString]
  simp only [Result.andThen]
  rw [Oper.upon_value]
  go_wp2
  go_ret
  exact ⟨rfl, rfl⟩

set_option maxRecDepth 100000 in
theorem lastR_any (s : ByteArray) (w : World) (hs : s.size ≤ maxLen) :
    Calls Tryd.prog 48 #[.string s, .int .u8 10] w fun e w' => e = .returned (.int .i64 ((s.size : Int) - colOf s.data.toList)) ∧ w' = w := by
  unfold maxLen at hs
  go_enter Tryd.func48, Tryd.ntmps48
  go_wp2
  go_loop [5] (fun i => ∃ k : Nat, k ≤ s.size ∧ i = .int .i64 ((k : Int) - 1) ∧ Hid (colOf s.data.toList + k = s.size + colOf (s.data.toList.take k))) (fun i => (intOf i + 1).toNat)
  case atStart => exact ⟨s.size, Nat.le_refl _, rfl, by show _ = _; rw [take_full]; omega⟩
  case round =>
    obtain ⟨k, hk, rfl, he⟩ := hrel
    cases k with
    | zero =>
      have hx : (s.size : Int) - colOf s.data.toList = -1 := by
        have := he.out
        have h2 : colOf (s.data.toList.take 0) = 1 := rfl
        omega
      have HX : Hid _ := hx
      clear hx
      go_wp2
      go_ret
      refine ⟨?_, rfl⟩; rw [HX.out]; rfl
    | succ j =>
      have hlt : j < s.size := by omega
      have e1 : ((j + 1 : Nat) : Int) - 1 = j := by omega
      rw [e1]
      have ht := take_snoc s j hlt
      have hcs := col_snoc (s.data.toList.take j) s[j]
      have hb := byte_lt s[j]
      by_cases h10 : s[j].toNat = 10
      · have h' : ((s[j].toNat : Int) == 10) = true := by simp; omega
        have hx : (s.size : Int) - colOf s.data.toList = j := by
          have := he.out
          rw [ht, hcs, if_pos h10] at this
          omega
        have HX : Hid _ := hx
        clear hx ht hcs h10 he e1
        go_wp2
        go_ret
        refine ⟨?_, rfl⟩; rw [HX.out]; rfl
      · have h' : ((s[j].toNat : Int) == 10) = false := beq_int_false (by omega)
        have hx : colOf s.data.toList + j = s.size + colOf (s.data.toList.take j) := by
          have := he.out
          rw [ht, hcs, if_neg h10] at this
          omega
        have HX : Hid _ := hx
        clear hx ht hcs h10 he e1
        go_wp2
        go_round
        case rel => exact ⟨j, by omega, by first | rfl | go_num, HX⟩
        case measure => simp [intOf]

theorem last_any (s : ByteArray) (w : World) (hs : s.size ≤ maxLen) :
    Calls Tryd.prog 37 #[.string s, .int .u8 10] w fun e w' => e = .returned (.int .i64 ((s.size : Int) - colOf s.data.toList)) ∧ w' = w := by
  have h := fun w => lastR_any s w hs
  generalize (s.size : Int) - colOf s.data.toList = X at *
  go_enter Tryd.func37, Tryd.ntmps37
  go_wp2_with (go_at_call 48; refine (h _).mono ?_; rintro e w' ⟨rfl, rfl⟩)
  go_ret
  exact ⟨rfl, rfl⟩

/-- A place, within the text. -/
def plc (s : ByteArray) (at_ : Int) : Nat := min (max at_ 0).toNat s.size
def ahead (s : ByteArray) (at_ : Int) : List UInt8 := s.data.toList.take (plc s at_)
theorem ahead_data (s : ByteArray) (at_ : Int) : (s.extract 0 (plc s at_)).data.toList = ahead s at_ := by
  rw [Lib.extract_data]; simp [ahead]

theorem ret_two {a b c d : Int} (h : a = c) (k : b = d) : Ending.returned (.tuple #[.int .i64 a, .int .i64 b]) = .returned (.tuple #[.int .i64 c, .int .i64 d]) := by rw [h, k]

set_option maxRecDepth 100000 in
theorem line_any (s : ByteArray) (at_ : Int) (w : World) (hs : s.size ≤ 2 ^ 40) :
    Calls Tryd.prog 19 #[.string s, .int .i64 at_] w fun e w' => e = .returned (.tuple #[.int .i64 (lineOf (ahead s at_)), .int .i64 (colOf (ahead s at_))]) ∧ w' = w := by
  by_cases h0 : at_ < 0
  · have hx : (ByteArray.empty : ByteArray).data.toList = ahead s at_ := by
      unfold ahead plc
      rw [show min (max at_ 0).toNat s.size = 0 from by omega]
      rfl
    have hc := fun w => count_any ByteArray.empty w
    have hl := fun w => last_any ByteArray.empty w (by unfold maxLen; decide)
    have h1 := line_le (ahead s at_)
    have h2 := col_le (ahead s at_)
    have hz : (ByteArray.empty : ByteArray).size = (ahead s at_).length := by rw [Lib.size_eq, hx]
    have hzl : (ahead s at_).length ≤ 2 ^ 40 := by rw [← hz]; decide
    have HZ : Hid ((ByteArray.empty : ByteArray).size = (ahead s at_).length) := hz
    rw [hx] at hc hl
    rw [hz] at hl
    have e1 : Hid (1 + (Lib.countByte (ahead s at_) 10 : Int) = lineOf (ahead s at_)) := by show _ = _; unfold lineOf; omega
    have c1 : (Lib.countByte (ahead s at_) 10 : Int) ≤ 2 ^ 40 + 1 := by have := e1.out; omega
    have c2 : (((ahead s at_).length : Int) - colOf (ahead s at_)) ≤ 2 ^ 40 + 1 := by omega
    have c3 : -1 ≤ (((ahead s at_).length : Int) - colOf (ahead s at_)) := by omega
    have e2 : Hid (((ahead s at_).length : Int) - (((ahead s at_).length : Int) - colOf (ahead s at_)) = colOf (ahead s at_)) := by show _ = _; omega
    clear h1 h2 hx hz
    generalize ((ahead s at_).length : Int) - colOf (ahead s at_) = L at *
    have c0 : 0 ≤ (Lib.countByte (ahead s at_) 10 : Int) := by omega
    generalize (Lib.countByte (ahead s at_) 10 : Int) = C at *
    generalize lineOf (ahead s at_) = R1 at *
    generalize colOf (ahead s at_) = R2 at *
    go_enter Tryd.func19, Tryd.ntmps19
    go_wp2_with (first | (go_at_call 36; refine (hc _).mono ?_; rintro e w' ⟨rfl, rfl⟩) | (go_at_call 37; refine (hl _).mono ?_; rintro e w' ⟨rfl, rfl⟩))
    go_ret2
    have a1 := e1.out
    have a2 := e2.out
    have a3 := HZ.out
    first | rw [ByteArray.size_extract] at a3 | rw [ByteArray.size_empty] at a3 | skip
    exact ⟨ret_two (by omega) (by omega), rfl⟩
  · by_cases h3 : (s.size : Int) < at_
    · have hx : (s : ByteArray).data.toList = ahead s at_ := by
        unfold ahead plc
        rw [show min (max at_ 0).toNat s.size = s.size from by omega]
        rw [take_full]
      have hc := fun w => count_any s w
      have hl := fun w => last_any s w (by unfold maxLen; omega)
      have h1 := line_le (ahead s at_)
      have h2 := col_le (ahead s at_)
      have hz : (s : ByteArray).size = (ahead s at_).length := by rw [Lib.size_eq, hx]
      have hzl : (ahead s at_).length ≤ 2 ^ 40 := by rw [← hz]; omega
      have HZ : Hid ((s : ByteArray).size = (ahead s at_).length) := hz
      rw [hx] at hc hl
      rw [hz] at hl
      have e1 : Hid (1 + (Lib.countByte (ahead s at_) 10 : Int) = lineOf (ahead s at_)) := by show _ = _; unfold lineOf; omega
      have c1 : (Lib.countByte (ahead s at_) 10 : Int) ≤ 2 ^ 40 + 1 := by have := e1.out; omega
      have c2 : (((ahead s at_).length : Int) - colOf (ahead s at_)) ≤ 2 ^ 40 + 1 := by omega
      have c3 : -1 ≤ (((ahead s at_).length : Int) - colOf (ahead s at_)) := by omega
      have e2 : Hid (((ahead s at_).length : Int) - (((ahead s at_).length : Int) - colOf (ahead s at_)) = colOf (ahead s at_)) := by show _ = _; omega
      clear h1 h2 hx hz
      generalize ((ahead s at_).length : Int) - colOf (ahead s at_) = L at *
      have c0 : 0 ≤ (Lib.countByte (ahead s at_) 10 : Int) := by omega
      generalize (Lib.countByte (ahead s at_) 10 : Int) = C at *
      generalize lineOf (ahead s at_) = R1 at *
      generalize colOf (ahead s at_) = R2 at *
      go_enter Tryd.func19, Tryd.ntmps19
      go_wp2_with (first | (go_at_call 36; refine (hc _).mono ?_; rintro e w' ⟨rfl, rfl⟩) | (go_at_call 37; refine (hl _).mono ?_; rintro e w' ⟨rfl, rfl⟩))
      go_ret2
      have a1 := e1.out
      have a2 := e2.out
      have a3 := HZ.out
      first | rw [ByteArray.size_extract] at a3 | rw [ByteArray.size_empty] at a3 | skip
      exact ⟨ret_two (by omega) (by omega), rfl⟩
    · obtain ⟨k, rfl⟩ : ∃ k : Nat, at_ = k := ⟨at_.toNat, by omega⟩
      have hk : k ≤ s.size := by omega
      have hx : ((s.extract 0 k) : ByteArray).data.toList = ahead s (k : Int) := by
        unfold ahead plc
        rw [show min (max (k : Int) 0).toNat s.size = k from by omega]
        rw [Lib.extract_data]; simp
      have hc := fun w => count_any (s.extract 0 k) w
      have hl := fun w => last_any (s.extract 0 k) w (by unfold maxLen; rw [ByteArray.size_extract]; omega)
      have h1 := line_le (ahead s (k : Int))
      have h2 := col_le (ahead s (k : Int))
      have hz : ((s.extract 0 k) : ByteArray).size = (ahead s (k : Int)).length := by rw [Lib.size_eq, hx]
      have hzl : (ahead s (k : Int)).length ≤ 2 ^ 40 := by rw [← hz]; rw [ByteArray.size_extract]; omega
      have HZ : Hid (((s.extract 0 k) : ByteArray).size = (ahead s (k : Int)).length) := hz
      rw [hx] at hc hl
      rw [hz] at hl
      have e1 : Hid (1 + (Lib.countByte (ahead s (k : Int)) 10 : Int) = lineOf (ahead s (k : Int))) := by show _ = _; unfold lineOf; omega
      have c1 : (Lib.countByte (ahead s (k : Int)) 10 : Int) ≤ 2 ^ 40 + 1 := by have := e1.out; omega
      have c2 : (((ahead s (k : Int)).length : Int) - colOf (ahead s (k : Int))) ≤ 2 ^ 40 + 1 := by omega
      have c3 : -1 ≤ (((ahead s (k : Int)).length : Int) - colOf (ahead s (k : Int))) := by omega
      have e2 : Hid (((ahead s (k : Int)).length : Int) - (((ahead s (k : Int)).length : Int) - colOf (ahead s (k : Int))) = colOf (ahead s (k : Int))) := by show _ = _; omega
      clear h1 h2 hx hz
      generalize ((ahead s (k : Int)).length : Int) - colOf (ahead s (k : Int)) = L at *
      have c0 : 0 ≤ (Lib.countByte (ahead s (k : Int)) 10 : Int) := by omega
      generalize (Lib.countByte (ahead s (k : Int)) 10 : Int) = C at *
      generalize lineOf (ahead s (k : Int)) = R1 at *
      generalize colOf (ahead s (k : Int)) = R2 at *
      go_enter Tryd.func19, Tryd.ntmps19
      go_wp2_with (first | (go_at_call 36; refine (hc _).mono ?_; rintro e w' ⟨rfl, rfl⟩) | (go_at_call 37; refine (hl _).mono ?_; rintro e w' ⟨rfl, rfl⟩))
      go_ret2
      have a1 := e1.out
      have a2 := e2.out
      have a3 := HZ.out
      first | rw [ByteArray.size_extract] at a3 | rw [ByteArray.size_empty] at a3 | skip
      exact ⟨ret_two (by omega) (by omega), rfl⟩
end Go.Proofs.YtcfhngfogclheaaDoor
