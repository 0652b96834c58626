/-
  The document's answers for bytes, digits, words; and the program's for names; condition: the table lies as the program's text lays it.
-/
import Derived.Test.YtodhagbeaobphaaGreatDoorLexD
namespace Go.Proofs.YtodhagbeaobphaaGreatDoor
open Go.RowKit

theorem ret_bool {a b : Bool} (h : a = b) : Ending.returned (.bool a) = .returned (.bool b) := by rw [h]

set_option maxRecDepth 100000 in
theorem letter_any (c : Nat) (w : World) (hc : c < 256) :
    Calls Tryz.prog 40 #[.int .u8 c] w fun e w' => e = .returned (.bool (isLet c)) ∧ w' = w := by
  unfold isLet
  go_enter Tryz.func40, Tryz.ntmps40
  go_wp2
  all_goals go_ret
  all_goals refine ⟨ret_bool ?_, rfl⟩
  all_goals (rw [Bool.eq_iff_iff]; simp; omega)

set_option maxRecDepth 100000 in
theorem digit_any (c : Nat) (w : World) (hc : c < 256) :
    Calls Tryz.prog 43 #[.int .u8 c] w fun e w' => e = .returned (.bool (isDig c)) ∧ w' = w := by
  unfold isDig
  go_enter Tryz.func43, Tryz.ntmps43
  go_wp2
  all_goals go_ret
  all_goals refine ⟨ret_bool ?_, rfl⟩
  all_goals (rw [Bool.eq_iff_iff]; simp; omega)

def figR (n : Nat) : Nat := if fig n = 16 then 99 else fig n

set_option maxRecDepth 100000 in
theorem figure_any (c : Nat) (w : World) (hc : c < 256) :
    Calls Tryz.prog 122 #[.int .u8 c] w fun e w' => e = .returned (.int .u64 (figR c)) ∧ w' = w := by
  have hd := fun w => digit_any c w hc
  unfold figR fig
  unfold isDig at *
  simp only [decide_eq_true_eq]
  by_cases h1 : 48 ≤ c ∧ c ≤ 57
  · rw [if_pos h1, if_neg (by omega)]
    rw [decide_eq_true h1] at hd
    obtain ⟨a, b⟩ := h1
    go_enter Tryz.func122, Tryz.ntmps122
    go_wp2_with (go_at_call 43; refine (hd _).mono ?_; rintro e w' ⟨rfl, rfl⟩)
    go_ret
    exact ⟨ret_int (by omega), rfl⟩
  · rw [decide_eq_false h1] at hd
    rw [if_neg h1]
    by_cases h2 : 97 ≤ c ∧ c ≤ 102
    · rw [if_pos h2, if_neg (by omega)]
      obtain ⟨a, b⟩ := h2
      clear h1
      go_enter Tryz.func122, Tryz.ntmps122
      go_wp2_with (go_at_call 43; refine (hd _).mono ?_; rintro e w' ⟨rfl, rfl⟩)
      go_ret
      exact ⟨ret_int (by omega), rfl⟩
    · rw [if_neg h2]
      by_cases h3 : 65 ≤ c ∧ c ≤ 70
      · rw [if_pos h3, if_neg (by omega)]
        obtain ⟨a, b⟩ := h3
        clear h1 h2
        go_enter Tryz.func122, Tryz.ntmps122
        go_wp2_with (go_at_call 43; refine (hd _).mono ?_; rintro e w' ⟨rfl, rfl⟩)
        go_ret
        exact ⟨ret_int (by omega), rfl⟩
      · rw [if_neg h3, if_pos rfl]
        go_enter Tryz.func122, Tryz.ntmps122
        go_wp2_with (go_at_call 43; refine (hd _).mono ?_; rintro e w' ⟨rfl, rfl⟩)
        all_goals first | (exfalso; omega) | (go_ret; exact ⟨rfl, rfl⟩)

set_option maxRecDepth 100000 in
theorem run_any (s : ByteArray) (k0 : Nat) (w : World) (hs : s.size ≤ maxLen) (hk0 : k0 ≤ s.size) :
    Calls Tryz.prog 41 #[.string s, .int .i64 k0] w fun e w' => e = .returned (.int .i64 (rnE s k0)) ∧ w' = w := by
  unfold maxLen at hs
  go_enter Tryz.func41, Tryz.ntmps41
  go_wp2
  go_loop [1] (fun i => ∃ k : Nat, k ≤ s.size ∧ i = .int .i64 k ∧ Hid (rnE s k = rnE s k0)) (fun i => s.size - (intOf i).toNat)
  case atStart => exact ⟨k0, hk0, rfl, rfl⟩
  case round =>
    obtain ⟨k, hk, rfl, he⟩ := hrel
    by_cases hlt : k < s.size
    · have hb := byte_lt s[k]
      have hL := fun w => letter_any s[k].toNat w hb
      have hD := fun w => digit_any s[k].toNat w hb
      have hin := rnE_in s k hlt
      have hout := rnE_out s k hlt
      unfold isWd at hin hout
      cases h1 : isLet s[k].toNat
      · rw [h1] at hL hin hout
        cases h2 : isDig s[k].toNat
        · rw [h2] at hD hin hout
          have hr := hout rfl
          clear hin hout h1 h2
          go_wp2_with (first | (go_at_call 40; refine (hL _).mono ?_; rintro e w' ⟨rfl, rfl⟩) | (go_at_call 43; refine (hD _).mono ?_; rintro e w' ⟨rfl, rfl⟩))
          go_ret
          refine ⟨?_, rfl⟩; rw [← he.out, hr]; rfl
        · rw [h2] at hD hin hout
          have hr := hin rfl
          clear hin hout h1 h2
          go_wp2_with (first | (go_at_call 40; refine (hL _).mono ?_; rintro e w' ⟨rfl, rfl⟩) | (go_at_call 43; refine (hD _).mono ?_; rintro e w' ⟨rfl, rfl⟩))
          go_round
          case rel => exact ⟨k + 1, hlt, by go_num, hr ▸ he⟩
          case measure => simp [intOf]; omega
      · rw [h1] at hL hin hout
        have hr := hin rfl
        clear hin hout h1
        go_wp2_with (first | (go_at_call 40; refine (hL _).mono ?_; rintro e w' ⟨rfl, rfl⟩) | (go_at_call 43; refine (hD _).mono ?_; rintro e w' ⟨rfl, rfl⟩))
        go_round
        case rel => exact ⟨k + 1, hlt, by go_num, hr ▸ he⟩
        case measure => simp [intOf]; omega
    · have hr := rnE_end s k (by omega)
      go_wp2
      go_ret
      refine ⟨?_, rfl⟩; rw [← he.out, hr]; rfl

theorem wordsAt (k : Nat) (h : k < 19) : (words.map fun l => Value.string ⟨l.toArray⟩)[k]? = some (.string ⟨(words.getD k []).toArray⟩) := by
  have hl : words.length = 19 := rfl
  rw [List.getElem?_map, List.getElem?_eq_getElem (by omega)]
  simp [List.getD, List.getElem?_eq_getElem (l := words) (i := k) (by omega)]

set_option maxRecDepth 100000 in
theorem Word_any (s : ByteArray) (w : World) :
    Calls Tryz.prog 42 #[.string s] w fun e w' => e = .returned (.bool (wrd s)) ∧ Fr [] w w' := by
  go_enter Tryz.func42, Tryz.ntmps42
  go_wp2
  generalize hw1 : w.alloc _ = w1
  have hF : Fr [] w w1 := by rw [← hw1]; exact (Fr.refl _ _).alloc _
  have hB : w1.heap[w.heap.size]? = some (.cells (words.map fun l => Value.string ⟨l.toArray⟩).toArray 9) := by rw [← hw1]; exact heap_alloc_new w _
  have hC : ∀ k, k < 19 → w1.cell? ⟨w.heap.size, k, none⟩ = some (.string ⟨(words.getD k []).toArray⟩) := fun k hk => by
    unfold World.cell?
    rw [hB]
    simpa using wordsAt k hk
  clear hw1 hB
  generalize w.heap.size = g at hC ⊢
  go_loop [7] (fun i => ∃ k : Nat, k ≤ 19 ∧ i = .int .i64 k ∧ ∀ j, j < k → s.toList ≠ words.getD j []) (fun i => 19 - (intOf i).toNat)
  case atStart => exact ⟨0, by omega, rfl, fun j hj => by omega⟩
  case round =>
    obtain ⟨k, hk, rfl, hno⟩ := hrel
    have hno' : Hid (∀ j, j < k → s.toList ≠ words.getD j []) := hno
    clear hno
    by_cases hlt : k < 19
    · have hlt' : (k : Int) < 19 := by omega
      have hc := hC k hlt
      clear hC
      have hq : (s.toList == (⟨(words.getD k []).toArray⟩ : ByteArray).toList) = decide (s.toList = words.getD k []) := by
        rw [Lib.toList_data (⟨(words.getD k []).toArray⟩ : ByteArray), Bool.eq_iff_iff]
        simp
      by_cases he : s.toList = words.getD k []
      · have hq' : (s.toList == (⟨(words.getD k []).toArray⟩ : ByteArray).toList) = true := by rw [hq]; exact decide_eq_true he
        have hw : wrd s = true := by
          rw [← wrd_toList, he, wordL]
          simp only [List.contains_iff_mem]
          have : k < words.length := hlt
          simp [List.getD, List.getElem?_eq_getElem this]
        have HW : Hid (wrd s = true) := hw
        clear hw hq he
        generalize (⟨(words.getD k []).toArray⟩ : ByteArray) = x at *
        go_wp2
        go_ret
        refine ⟨?_, hF⟩; rw [HW.out]; rfl
      · have hq' : (s.toList == (⟨(words.getD k []).toArray⟩ : ByteArray).toList) = false := by rw [hq]; exact decide_eq_false he
        have HE : Hid (¬ s.toList = words.getD k []) := he
        clear hq he
        generalize (⟨(words.getD k []).toArray⟩ : ByteArray) = x at *
        go_wp2
        go_round
        case rel => exact ⟨k + 1, hlt, by go_num, fun j hj => by
          by_cases hjk : j = k
          · rw [hjk]; exact HE.out
          · exact hno'.out j (by omega)⟩
        case measure => simp [intOf]; omega
    · have hlt' : ¬ (k : Int) < 19 := by omega
      have hw : wrd s = false := by
        have hk' : k = 19 := by omega
        subst hk'
        rw [← wrd_toList, wordL, Bool.eq_false_iff]
        intro h
        obtain ⟨j, hj, e⟩ := List.getElem_of_mem (List.contains_iff_mem.1 h)
        refine hno'.out j hj ?_
        rw [← e]
        simp [List.getD, List.getElem?_eq_getElem hj]
      have HW : Hid (wrd s = false) := hw
      clear hw
      go_wp2
      go_ret
      refine ⟨?_, hF⟩; rw [HW.out]; rfl
end Go.Proofs.YtodhagbeaobphaaGreatDoor
