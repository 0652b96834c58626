/-
  Which texts are names, by the program and by the document; condition: the table lies as the program's text lays it.
-/
import Derived.Test.YtodhagbeaobphaaGreatDoorLexG
namespace Go.Proofs.YtodhagbeaobphaaGreatDoor
open Go.RowKit

def name (s : ByteArray) : Bool := nameL s.data.toList
theorem kind_let (n : Nat) : kindN n = 2 ↔ isLet n = true := by
  simp only [kindN, isBl, isLet, isDig, decide_eq_true_eq]
  repeat (first | omega | split)
theorem name_nil {s : ByteArray} (h : s.size = 0) : name s = false := by
  have : s.data.toList = [] := by rw [← List.length_eq_zero_iff, ← Lib.size_eq]; exact h
  rw [name, this]; rfl
theorem name_eq {s : ByteArray} (h : 0 < s.size) : name s = (isLet s[0].toNat && decide (rnE s 0 = s.size) && !wrd s) := by
  obtain ⟨l, hl⟩ := head_of h
  rw [name, wrd, rnE, Lib.size_eq s, List.drop_zero]
  rw [hl]
  simp [nameL]

set_option maxRecDepth 100000 in
set_option maxHeartbeats 1000000 in
theorem name_any (s : ByteArray) (w : World) (hs : s.size ≤ maxLen) (T : Tabs w) :
    Calls Tryz.prog 94 #[.string s] w fun e w' => e = .returned (.bool (name s)) ∧ w' = w := by
  have hr := fun w T => runEnd_any s 0 w hs (Nat.zero_le _) T
  have hw := fun w => isWord_any s w
  have hE := empty_of s
  have hle := rnE_le s 0 (Nat.zero_le _)
  unfold maxLen at hs
  by_cases hz : s.size = 0
  · rw [name_nil hz]
    have hz' : s.toList.isEmpty = true := by rw [hE]; simp [hz]
    clear hE hle
    go_enter Tryz.func94, Tryz.ntmps94
    go_wp2
    go_ret
    exact ⟨rfl, rfl⟩
  · have l0 : 0 < s.size := by omega
    have hz' : s.toList.isEmpty = false := by rw [hE]; simp [hz]
    rw [name_eq l0]
    clear hE hz
    have hb := byte_lt s[0]
    have hk := fun w T => kindOf_any s[0].toNat w hb T
    by_cases h2 : kindN s[0].toNat = 2
    · rw [(kind_let _).1 h2]
      rw [h2] at hk
      clear h2
      by_cases hR : rnE s 0 = s.size
      · rw [decide_eq_true hR]
        rw [hR] at hr
        generalize wrd s = B at *
        clear hR hle
        go_enter Tryz.func94, Tryz.ntmps94
        go_wp2_with (first | (go_at_call 100; refine (hk _ T).mono ?_; rintro e w' ⟨rfl, rfl⟩) | (go_at_call 105; refine (hr _ T).mono ?_; rintro e w' ⟨rfl, rfl⟩) | (go_at_call 127; refine (hw _).mono ?_; rintro e w' ⟨rfl, rfl⟩))
        all_goals go_ret
        all_goals exact ⟨by simp, rfl⟩
      · rw [decide_eq_false hR]
        generalize wrd s = B at *
        generalize rnE s 0 = X at *
        have hR' : ((X : Int) == s.size) = false := beq_int_false (by omega)
        clear hR
        go_enter Tryz.func94, Tryz.ntmps94
        go_wp2_with (first | (go_at_call 100; refine (hk _ T).mono ?_; rintro e w' ⟨rfl, rfl⟩) | (go_at_call 105; refine (hr _ T).mono ?_; rintro e w' ⟨rfl, rfl⟩) | (go_at_call 127; refine (hw _).mono ?_; rintro e w' ⟨rfl, rfl⟩))
        all_goals go_ret
        all_goals exact ⟨by simp, rfl⟩
    · have hl : isLet s[0].toNat = false := by rw [Bool.eq_false_iff]; exact fun h => h2 ((kind_let _).2 h)
      rw [hl]
      have h2' : ((kindN s[0].toNat : Int) == 2) = false := beq_int_false (by omega)
      generalize kindN s[0].toNat = K at *
      clear h2 hl hr hle hw
      go_enter Tryz.func94, Tryz.ntmps94
      go_wp2_with (first | (go_at_call 100; refine (hk _ T).mono ?_; rintro e w' ⟨rfl, rfl⟩))
      all_goals go_ret
      all_goals exact ⟨by simp, rfl⟩

set_option maxRecDepth 100000 in
set_option maxHeartbeats 1000000 in
theorem nameR_any (s : ByteArray) (w : World) (hs : s.size ≤ maxLen) :
    Calls Tryz.prog 57 #[.string s] w fun e w' => e = .returned (.bool (name s)) ∧ Fr [] w w' := by
  have hw := fun w => Word_any s w
  have hE := empty_of s
  unfold maxLen at hs
  go_enter Tryz.func57, Tryz.ntmps57
  go_wp2
  go_loop [3] (fun i => ∃ k : Nat, k ≤ s.size ∧ i = .int .i64 k ∧ Hid (∀ h : 0 < s.size, 0 < k → isLet s[0].toNat = true ∧ rnE s 0 = rnE s k)) (fun i => s.size - (intOf i).toNat)
  case atStart => exact ⟨0, Nat.zero_le _, rfl, fun _ h => absurd h (by omega)⟩
  case round =>
    obtain ⟨k, hk, rfl, he⟩ := hrel
    by_cases hlt : k < s.size
    · have l0 : 0 < s.size := by omega
      have hb := byte_lt s[k]
      have hL := fun w => letter_any s[k].toNat w hb
      have hD := fun w => digit_any s[k].toNat w hb
      have hin := rnE_in s k hlt
      have hout := rnE_out s k hlt
      have hne := name_eq l0
      have hnx : Hid (isWd s[k].toNat = true → (k = 0 → isLet s[k].toNat = true) → ∀ h : 0 < s.size, 0 < k + 1 → isLet s[0].toNat = true ∧ rnE s 0 = rnE s (k + 1)) := fun a b h _ => by
        by_cases hk0 : k = 0
        · subst hk0
          exact ⟨b rfl, hin a⟩
        · exact ⟨(he.out h (by omega)).1, (he.out h (by omega)).2.trans (hin a)⟩
      have hfalse : Hid (isWd s[k].toNat = false ∨ (k = 0 ∧ isLet s[k].toNat = false) → name s = false) := fun h => by
        by_cases hk0 : k = 0
        · subst hk0
          have : isLet s[0].toNat = false := by
            rcases h with h | h
            · unfold isWd at h; simp at h; exact h.1
            · exact h.2
          rw [hne, this]; rfl
        · rcases h with h | h
          · have h1 := (he.out l0 (by omega)).2
            rw [hout h] at h1
            rw [hne, h1, decide_eq_false (by omega)]
            simp
          · exact absurd h.1 hk0
      clear hin hout hne he
      unfold isWd at hnx hfalse
      cases h1 : isLet s[k].toNat
      · rw [h1] at hL hnx hfalse
        cases h2 : isDig s[k].toNat
        · rw [h2] at hD hnx hfalse
          have hf := hfalse.out (.inl rfl)
          have HF : Hid _ := hf
          clear hf hnx hfalse h1 h2
          go_wp2_with (first | (go_at_call 40; refine (hL _).mono ?_; rintro e w' ⟨rfl, rfl⟩) | (go_at_call 43; refine (hD _).mono ?_; rintro e w' ⟨rfl, rfl⟩))
          all_goals go_ret
          all_goals (refine ⟨?_, Fr.refl _ _⟩; rw [HF.out]; rfl)
        · rw [h2] at hD hnx hfalse
          by_cases hk0 : k = 0
          · have hf := hfalse.out (.inr ⟨hk0, rfl⟩)
            have HF : Hid _ := hf
            clear hf hnx hfalse h1 h2
            have hk0' : ((k : Int) == 0) = true := by simp; omega
            clear hk0
            go_wp2_with (first | (go_at_call 40; refine (hL _).mono ?_; rintro e w' ⟨rfl, rfl⟩) | (go_at_call 43; refine (hD _).mono ?_; rintro e w' ⟨rfl, rfl⟩))
            all_goals go_ret
            all_goals (refine ⟨?_, Fr.refl _ _⟩; rw [HF.out]; rfl)
          · have hn := hnx.out rfl (fun h => absurd h hk0)
            have HN : Hid _ := hn
            have hk0' : ((k : Int) == 0) = false := beq_int_false (by omega)
            clear hn hnx hfalse h1 h2 hk0
            go_wp2_with (first | (go_at_call 40; refine (hL _).mono ?_; rintro e w' ⟨rfl, rfl⟩) | (go_at_call 43; refine (hD _).mono ?_; rintro e w' ⟨rfl, rfl⟩))
            go_round
            case rel => exact ⟨k + 1, hlt, by go_num, HN⟩
            case measure => simp [intOf]; omega
      · rw [h1] at hL hnx hfalse
        have hn := hnx.out rfl (fun _ => rfl)
        have HN : Hid _ := hn
        clear hn hnx hfalse h1
        go_wp2_with (first | (go_at_call 40; refine (hL _).mono ?_; rintro e w' ⟨rfl, rfl⟩) | (go_at_call 43; refine (hD _).mono ?_; rintro e w' ⟨rfl, rfl⟩))
        go_round
        case rel => exact ⟨k + 1, hlt, by go_num, HN⟩
        case measure => simp [intOf]; omega
    · by_cases hz : s.size = 0
      · have hz' : s.toList.isEmpty = true := by rw [hE]; simp [hz]
        have hn := name_nil hz
        have HN : Hid _ := hn
        clear hn hE hz he
        go_wp2
        go_ret
        refine ⟨?_, Fr.refl _ _⟩; rw [HN.out]; rfl
      · have l0 : 0 < s.size := by omega
        have hz' : s.toList.isEmpty = false := by rw [hE]; simp [hz]
        have hq := he.out l0 (by omega)
        have hn := name_eq l0
        rw [hq.1, hq.2, rnE_end s k (by omega), decide_eq_true (by omega)] at hn
        simp only [Bool.and_self, Bool.true_and] at hn
        have HN : Hid _ := hn
        clear hn hE hz he hq
        go_wp2_with (go_at_call 42; refine (hw _).mono ?_; rintro e w' ⟨rfl, hF⟩)
        all_goals go_ret
        all_goals (refine ⟨?_, hF⟩; rw [HN.out]; rfl)
end Go.Proofs.YtodhagbeaobphaaGreatDoor
