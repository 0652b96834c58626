/-
  How far blanks and notes go, by the program; condition: the table lies as the program's text lays it.
-/
import Derived.Test.YtekjfddcbcijdaaGreatDoorLexH
namespace Go.Proofs.YtekjfddcbcijdaaGreatDoor
open Go.RowKit

theorem take_full (s : ByteArray) : s.data.toList.take s.size = s.data.toList := by
  rw [List.take_of_length_le]; rw [← Lib.size_eq]; exact Nat.le_refl _

theorem take_snoc (s : ByteArray) (k : Nat) (h : k < s.size) : s.data.toList.take (k + 1) = s.data.toList.take k ++ [s[k]] := by
  rw [List.take_succ_eq_append_getElem (by simpa using h)]; rfl


theorem index_nl (l : List UInt8) : Lib.indexByte l 10 = if toNl l = l.length then -1 else (toNl l : Int) := by
  induction l with
  | nil => rfl
  | cons c l ih =>
    have hk := u8eq c 10 (by decide)
    have hle := toNl_le l
    by_cases h : c.toNat = 10
    · have h' : c = UInt8.ofNat 10 := by rw [hk]; exact h
      have e1 : toNl (c :: l) = 0 := by simp [toNl, h]
      have hq : (c == (10 : UInt8)) = true := by rw [beq_iff_eq]; exact h'
      rw [e1, if_neg (by simp)]
      simp only [Lib.indexByte, hq]
      rfl
    · have h' : ¬ c = UInt8.ofNat 10 := by rw [hk]; exact h
      have e1 : toNl (c :: l) = toNl l + 1 := by simp [toNl, h]
      have hq : (c == (10 : UInt8)) = false := by
        rw [beq_eq_false_iff_ne]; exact h'
      have e2 : Lib.indexByte (c :: l) 10 = if Lib.indexByte l 10 == -1 then -1 else Lib.indexByte l 10 + 1 := by
        simp only [Lib.indexByte, hq]
        rfl
      rw [e1, e2, ih]
      by_cases he : toNl l = l.length
      · simp [he]
      · rw [if_neg he, if_neg (c := toNl l + 1 = (c :: l).length) (by simp; omega)]
        have : ((toNl l : Int) == -1) = false := beq_int_false (by omega)
        simp [this]

set_option maxRecDepth 100000 in
theorem indexR_any (s : ByteArray) (w : World) :
    Calls Tryz.prog 76 #[.string s, .int .u8 10] w fun e w' => e = .returned (.int .i64 (Lib.indexByte s.data.toList 10)) ∧ w' = w := by
  go_enter Tryz.func76, Tryz.ntmps76
  go_wp2
  rw [run_callFunc_extern Tryz.func87 (by kernel_rfl) (by kernel_rfl) (by kernel_rfl) (e := Extern.BytealgIndexByte.indexByte) (by kernel_rfl), Lib.run_indexByteString]
  simp only [Result.andThen]
  rw [Oper.upon_value]
  go_wp2
  go_ret
  exact ⟨rfl, rfl⟩
theorem index_any (s : ByteArray) (w : World) :
    Calls Tryz.prog 67 #[.string s, .int .u8 10] w fun e w' => e = .returned (.int .i64 (Lib.indexByte s.data.toList 10)) ∧ w' = w := by
  go_enter Tryz.func67, Tryz.ntmps67
  go_wp2_with (go_at_call 76; refine (indexR_any _ _).mono ?_; rintro e w' ⟨rfl, rfl⟩)
  go_ret
  exact ⟨rfl, rfl⟩
theorem prefS_any (s p : ByteArray) (w : World) (hs : s.size ≤ maxLen) (hp : p.size ≤ maxLen) :
    Calls Tryz.prog 45 #[.string s, .string p] w fun e w' => e = .returned (.bool (Lib.hasPrefix s.data.toList p.data.toList)) ∧ w' = w := by
  go_enter Tryz.func45, Tryz.ntmps45
  go_wp2_with (go_at_call 66; refine (hasPrefix_any _ _ _ hs hp).mono ?_; rintro e w' ⟨rfl, rfl⟩)
  go_ret
  exact ⟨rfl, rfl⟩

def nlE (s : ByteArray) (k : Nat) : Nat := k + toNl (s.data.toList.drop k)
theorem nlE_le (s : ByteArray) (k : Nat) (h : k ≤ s.size) : k ≤ nlE s k ∧ nlE s k ≤ s.size := by
  have := toNl_le (s.data.toList.drop k)
  rw [List.length_drop, ← Lib.size_eq] at this
  unfold nlE
  omega
theorem extract_rest (s : ByteArray) (k : Nat) : (s.extract k s.size).data.toList = s.data.toList.drop k := by
  rw [Lib.extract_data, List.take_of_length_le]
  rw [List.length_drop, ← Lib.size_eq]
  exact Nat.le_refl _

set_option maxRecDepth 100000 in
theorem lineEnd_any (s : ByteArray) (k : Nat) (w : World) (hs : s.size ≤ maxLen) (hk : k ≤ s.size) :
    Calls Tryz.prog 46 #[.string s, .int .i64 k] w fun e w' => e = .returned (.int .i64 (nlE s k)) ∧ w' = w := by
  have hix := fun w => index_any (s.extract k s.size) w
  rw [extract_rest, index_nl] at hix
  have hle := nlE_le s k hk
  have hl : (s.data.toList.drop k).length = s.size - k := by rw [List.length_drop, ← Lib.size_eq]
  rw [hl] at hix
  unfold maxLen at hs
  by_cases he : toNl (s.data.toList.drop k) = s.size - k
  · rw [if_pos he] at hix
    have HR : Hid (nlE s k = s.size) := by show _ = _; unfold nlE; omega
    clear hl he hle
    go_enter Tryz.func46, Tryz.ntmps46
    go_wp2_with (go_at_call 67; refine (hix _).mono ?_; rintro e w' ⟨rfl, rfl⟩)
    go_ret
    refine ⟨?_, rfl⟩; rw [HR.out]; rfl
  · rw [if_neg he] at hix
    have hT : toNl (s.data.toList.drop k) ≤ s.size - k := by rw [← hl]; exact toNl_le _
    unfold nlE
    clear hl he hle
    generalize toNl (s.data.toList.drop k) = T at *
    go_enter Tryz.func46, Tryz.ntmps46
    go_wp2_with (go_at_call 67; refine (hix _).mono ?_; rintro e w' ⟨rfl, rfl⟩)
    go_ret
    exact ⟨ret_int (by omega), rfl⟩

def skE (s : ByteArray) (k : Nat) : Nat := k + skipL false (s.data.toList.drop k)
theorem skE_le (s : ByteArray) (k : Nat) (h : k ≤ s.size) : k ≤ skE s k ∧ skE s k ≤ s.size := by
  have := skipL_le false (s.data.toList.drop k)
  rw [List.length_drop, ← Lib.size_eq] at this
  unfold skE
  omega
theorem skE_end (s : ByteArray) (k : Nat) (h : s.size ≤ k) : skE s k = k := by simp [skE, drop_end s k h, skipL]
theorem skE_bl (s : ByteArray) (k : Nat) (h : k < s.size) (hb : isBl s[k].toNat = true) : skE s k = skE s (k + 1) := by
  simp [skE, drop_cons s k h, skipL, hb]; omega
/-- A note begins at k. -/
def note (s : ByteArray) (k : Nat) : Bool := Lib.hasPrefix (s.data.toList.drop k) [47, 47]
theorem pref_note (l : List UInt8) (c : UInt8) : Lib.hasPrefix (c :: l) [47, 47] = decide (c.toNat = 47 ∧ l.head? = some 47) := by
  have k := u8eq c 47 (by decide)
  have k' : (c = 47) = (c.toNat = 47) := k
  unfold Lib.hasPrefix
  rw [Bool.eq_iff_iff]
  cases l with
  | nil => simp [List.isPrefixOf]
  | cons d l =>
    simp only [List.isPrefixOf, Bool.and_true, Bool.and_eq_true, beq_iff_eq, List.head?_cons, Option.some.injEq, decide_eq_true_eq]
    rw [← k']
    constructor <;> rintro ⟨a, b⟩ <;> exact ⟨a.symm, b.symm⟩
theorem skE_note (s : ByteArray) (k : Nat) (h : k < s.size) (hb : isBl s[k].toNat = false) (hn : note s k = true) : skE s k = skE s (nlE s k) ∧ k < nlE s k := by
  unfold note at hn
  rw [drop_cons s k h, pref_note] at hn
  have hn' := of_decide_eq_true hn
  have hd : s.data.toList.drop (k + 1 + toNl (s.data.toList.drop (k + 1))) = (s.data.toList.drop (k + 1)).drop (toNl (s.data.toList.drop (k + 1))) := by rw [List.drop_drop]
  constructor
  · simp only [skE, nlE, drop_cons s k h, skipL, hb, toNl]
    rw [if_neg (by simp), if_pos hn', if_neg (by rw [hn'.1]; decide), skip_note]
    rw [show k + (toNl (List.drop (k + 1) s.data.toList) + 1) = k + 1 + toNl (List.drop (k + 1) s.data.toList) from by omega, hd]
    omega
  · simp only [nlE, drop_cons s k h, toNl]
    rw [if_neg (by rw [hn'.1]; decide)]
    omega
theorem skE_out (s : ByteArray) (k : Nat) (h : k < s.size) (hb : isBl s[k].toNat = false) (hn : note s k = false) : skE s k = k := by
  unfold note at hn
  rw [drop_cons s k h, pref_note] at hn
  have hn' := of_decide_eq_false hn
  simp only [skE, drop_cons s k h, skipL, hb]
  rw [if_neg (by simp), if_neg hn']
  omega
theorem kind_bl (n : Nat) : kindN n = 1 ↔ isBl n = true := by
  simp only [kindN, isBl, isLet, isDig, decide_eq_true_eq]
  repeat (first | omega | split)

set_option maxRecDepth 100000 in
set_option maxHeartbeats 1000000 in
theorem skip_any (s : ByteArray) (k0 : Nat) (w : World) (hs : s.size ≤ maxLen) (hk0 : k0 ≤ s.size) (T : Tabs w) :
    Calls Tryz.prog 18 #[.string s, .int .i64 k0] w fun e w' => e = .returned (.int .i64 (skE s k0)) ∧ w' = w := by
  have hs' := hs
  have HS : Hid (s.size ≤ maxLen) := hs'
  clear hs'
  unfold maxLen at hs
  go_enter Tryz.func18, Tryz.ntmps18
  go_wp2
  go_loop [1] (fun i => ∃ k : Nat, k ≤ s.size ∧ i = .int .i64 k ∧ Hid (skE s k = skE s k0)) (fun i => s.size - (intOf i).toNat)
  case atStart => exact ⟨k0, hk0, rfl, rfl⟩
  case round =>
    obtain ⟨k, hk, rfl, he⟩ := hrel
    by_cases hlt : k < s.size
    · have hb := byte_lt s[k]
      have hK := fun w T => kindOf_any s[k].toNat w hb T
      by_cases h1 : kindN s[k].toNat = 1
      · have hr := skE_bl s k hlt ((kind_bl _).1 h1)
        rw [h1] at hK
        clear h1
        go_wp2_with (go_at_call 44; refine (hK _ T).mono ?_; rintro e w' ⟨rfl, rfl⟩)
        go_round
        case rel => exact ⟨k + 1, hlt, by go_num, hr ▸ he⟩
        case measure => simp [intOf]; omega
      · have hbl : isBl s[k].toNat = false := by rw [Bool.eq_false_iff]; exact fun h => h1 ((kind_bl _).2 h)
        have h1' : ((kindN s[k].toNat : Int) == 1) = false := beq_int_false (by omega)
        have hp := fun w => prefS_any (s.extract k s.size) ⟨#[47, 47]⟩ w (by rw [ByteArray.size_extract]; unfold maxLen; omega) (by decide)
        rw [extract_rest] at hp
        have hle := fun w => lineEnd_any s k w HS.out hk
        have hnote := skE_note s k hlt hbl
        have hout := skE_out s k hlt hbl
        have hnl := nlE_le s k hk
        have hp' : ∀ w, Calls Tryz.prog 45 #[.string (s.extract k s.size), .string ⟨#[47, 47]⟩] w fun e w' => e = .returned (.bool (note s k)) ∧ w' = w := hp
        clear hp h1 hbl
        generalize kindN s[k].toNat = K at *
        cases hn : note s k
        · rw [hn] at hp' hout
          have hr := hout rfl
          clear hnote hout hnl hn hle
          go_wp2_with (first | (go_at_call 44; refine (hK _ T).mono ?_; rintro e w' ⟨rfl, rfl⟩) | (go_at_call 45; refine (hp' _).mono ?_; rintro e w' ⟨rfl, rfl⟩))
          go_ret
          refine ⟨?_, rfl⟩; rw [← he.out, hr]; rfl
        · rw [hn] at hp' hnote
          obtain ⟨hr, hgt⟩ := hnote rfl
          generalize nlE s k = N at *
          clear hout hn
          have HR : Hid (skE s N = skE s k0) := by show _ = _; rw [← he.out, hr]
          clear hr he
          obtain ⟨n1, n2⟩ := hnl
          go_wp2_with (first | (go_at_call 44; refine (hK _ T).mono ?_; rintro e w' ⟨rfl, rfl⟩) | (go_at_call 45; refine (hp' _).mono ?_; rintro e w' ⟨rfl, rfl⟩) | (go_at_call 46; refine (hle _).mono ?_; rintro e w' ⟨rfl, rfl⟩))
          go_round
          case rel => exact ⟨N, n2, rfl, HR⟩
          case measure => simp [intOf]; omega
    · have hr := skE_end s k (by omega)
      go_wp2
      go_ret
      refine ⟨?_, rfl⟩; rw [← he.out, hr]; rfl
end Go.Proofs.YtekjfddcbcijdaaGreatDoor
