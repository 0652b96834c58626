/-
  Which kids a node may have, by the document; condition: the kinds lie in a row as told.
-/
import Derived.Test.YtajkkjohoedhaaaDoorTreeK
namespace Go.Proofs.YtajkkjohoedhaaaDoor
open Go.RowKit
set_option linter.unusedVariables false
set_option linter.unusedSimpArgs false

theorem len_cases {K : List Int} : (K.length = 0 ∧ K = []) ∨ ∃ q r, K = q :: r := by
  cases K with
  | nil => exact .inl ⟨rfl, rfl⟩
  | cons q r => exact .inr ⟨q, r, rfl⟩

section
variable {B : Nat} {w : World} {K : List Int} {a : Option Addr} {m c : Nat}

set_option maxRecDepth 100000 in
set_option maxHeartbeats 1000000 in
theorem shape_prog (hl : K.length = m) (hm : m ≤ maxLen) (hK : KAt B w a K) :
    Calls Tryd.prog 26 #[.int .i64 1, .slice a m c] w fun e w' => e = .returned (.bool (shapeL 1 K)) ∧ w' = w := by
  have HS : Hid (shapeL 1 K = allE (fun k => k == 2 || k == 3) K) := rfl
  rw [HS.out]
  unfold maxLen at hm
  have HL : Hid (K.length = m) := hl
  clear hl HS
  go_enter Tryd.func26, Tryd.ntmps26
  go_wp2
  go_loop [17] (fun i => ∃ p : Nat, p ≤ m ∧ i = .int .i64 p ∧ Hid (allE (fun k => k == 2 || k == 3) (K.drop p) = allE (fun k => k == 2 || k == 3) K)) (fun i => m - (intOf i).toNat)
  case atStart => exact ⟨0, Nat.zero_le _, rfl, rfl⟩
  case round =>
    obtain ⟨p, hp, rfl, he⟩ := hrel
    by_cases hlt : p < m
    · have hx : K[p]? = some (K[p]'(by rw [HL.out]; exact hlt)) := List.getElem?_eq_getElem _
      generalize K[p]'(by rw [HL.out]; exact hlt) = q at hx
      obtain ⟨b, o, rfl, hb, hc⟩ := hK p q hx
      have HS : Hid (allE (fun k => k == 2 || k == 3) (K.drop p) = ((q == 2 || q == 3) && allE (fun k => k == 2 || k == 3) (K.drop (p + 1)))) := allE_at hx
      clear hx hK
      by_cases h2 : q = 2
      · subst h2
        have HR : Hid (allE (fun k => k == 2 || k == 3) (K.drop (p + 1)) = allE (fun k => k == 2 || k == 3) K) := by unfold Hid; rw [← he.out, HS.out]; simp
        clear HS
        go_wp2
        go_round
        case rel => exact ⟨p + 1, hlt, by go_num, HR⟩
        case measure => simp [intOf]; omega
      · by_cases h3 : q = 3
        · subst h3
          have HR : Hid (allE (fun k => k == 2 || k == 3) (K.drop (p + 1)) = allE (fun k => k == 2 || k == 3) K) := by unfold Hid; rw [← he.out, HS.out]; simp
          clear HS h2
          go_wp2
          all_goals
            go_round
            case rel => exact ⟨p + 1, hlt, by go_num, HR⟩
            case measure => simp [intOf]; omega
        · have h2' : (q == 2) = false := by simp [h2]
          have h3' : (q == 3) = false := by simp [h3]
          have HR : Hid (allE (fun k => k == 2 || k == 3) K = false) := by unfold Hid; rw [← he.out, HS.out, h2', h3']; rfl
          clear HS
          have h2n : (q != 2) = true := by simp [h2]
          have h3n : (q != 3) = true := by simp [h3]
          go_wp2
          all_goals first | (exfalso; omega) | (exfalso; simp_all; done) | skip
          go_ret
          exact ⟨by rw [HR.out]; rfl, rfl⟩
    · have HE : Hid (allE (fun k => k == 2 || k == 3) K = true) := by
        unfold Hid
        rw [← he.out, List.drop_of_length_le (by rw [HL.out]; omega)]
        rfl
      go_wp2
      go_ret
      exact ⟨by rw [HE.out]; rfl, rfl⟩

set_option maxRecDepth 100000 in
set_option maxHeartbeats 1000000 in
theorem shape_block (hl : K.length = m) (hm : m ≤ maxLen) (hK : KAt B w a K) :
    Calls Tryd.prog 26 #[.int .i64 4, .slice a m c] w fun e w' => e = .returned (.bool (shapeL 4 K)) ∧ w' = w := by
  have HS : Hid (shapeL 4 K = allE isSt K) := rfl
  rw [HS.out]
  unfold maxLen at hm
  have HL : Hid (K.length = m) := hl
  clear hl HS
  go_enter Tryd.func26, Tryd.ntmps26
  go_wp2
  go_loop [56] (fun i => ∃ p : Nat, p ≤ m ∧ i = .int .i64 p ∧ Hid (allE isSt (K.drop p) = allE isSt K)) (fun i => m - (intOf i).toNat)
  case atStart => exact ⟨0, Nat.zero_le _, rfl, rfl⟩
  case round =>
    obtain ⟨p, hp, rfl, he⟩ := hrel
    by_cases hlt : p < m
    · have hx : K[p]? = some (K[p]'(by rw [HL.out]; exact hlt)) := List.getElem?_eq_getElem _
      generalize K[p]'(by rw [HL.out]; exact hlt) = q at hx
      obtain ⟨b, o, rfl, hb, hc⟩ := hK p q hx
      have HS : Hid (allE isSt (K.drop p) = (isSt q && allE isSt (K.drop (p + 1)))) := allE_at hx
      have C := fun w => Stmt_any q w
      clear hx hK
      cases hq : isSt q with
      | true =>
        rw [hq] at C
        have HR : Hid (allE isSt (K.drop (p + 1)) = allE isSt K) := by unfold Hid; rw [← he.out, HS.out, hq]; simp
        clear HS
        go_wp2_with (go_at_call 41; refine (C _).mono ?_; rintro e w' ⟨rfl, rfl⟩)
        go_round
        case rel => exact ⟨p + 1, hlt, by go_num, HR⟩
        case measure => simp [intOf]; omega
      | false =>
        rw [hq] at C
        have HR : Hid (allE isSt K = false) := by unfold Hid; rw [← he.out, HS.out, hq, Bool.false_and]
        clear HS
        go_wp2_with (go_at_call 41; refine (C _).mono ?_; rintro e w' ⟨rfl, rfl⟩)
        go_ret
        exact ⟨by rw [HR.out]; rfl, rfl⟩
    · have HE : Hid (allE isSt K = true) := by
        unfold Hid
        rw [← he.out, List.drop_of_length_le (by rw [HL.out]; omega)]
        rfl
      go_wp2
      go_ret
      exact ⟨by rw [HE.out]; rfl, rfl⟩

set_option maxRecDepth 100000 in
set_option maxHeartbeats 1000000 in
theorem shape_names (k : Int) (hk : k = 2 ∨ k = 13) (hl : K.length = m) (hm : m ≤ maxLen) (hK : KAt B w a K) :
    Calls Tryd.prog 26 #[.int .i64 k, .slice a m c] w fun e w' => e = .returned (.bool (shapeL k K)) ∧ w' = w := by
  have C := fun c => all_any B w K a m c 17 hl hm hK
  have HS : Hid (shapeL k K = allE (· == 17) K) := by unfold Hid; rcases hk with rfl | rfl <;> rfl
  rw [HS.out]
  generalize allE (· == 17) K = R at *
  unfold maxLen at hm
  rcases hk with rfl | rfl
  all_goals
    go_enter Tryd.func26, Tryd.ntmps26
    go_wp2_with (go_at_call 40; refine (C _).mono ?_; rintro e w' ⟨rfl, rfl⟩)
    go_ret
    exact ⟨rfl, rfl⟩

set_option maxRecDepth 100000 in
set_option maxHeartbeats 1000000 in
theorem shape_one (k : Int) (hk : k = 5 ∨ k = 9 ∨ k = 10 ∨ k = 11 ∨ k = 18 ∨ k = 20 ∨ k = 24 ∨ k = 25 ∨ k = 27 ∨ k = 29) (hl : K.length = m) (hm : m ≤ maxLen) (hK : KAt B w a K) :
    Calls Tryd.prog 26 #[.int .i64 k, .slice a m c] w fun e w' => e = .returned (.bool (shapeL k K)) ∧ w' = w := by
  have C := fun c => exprs_any B w K a m c 1 hl hm (by decide) hK
  have HS : Hid (shapeL k K = (allE isEx K && decide (m = 1))) := by
    unfold Hid
    rw [← hl]
    rcases hk with rfl | rfl | rfl | rfl | rfl | rfl | rfl | rfl | rfl | rfl <;> rfl
  rw [HS.out]
  generalize (allE isEx K && decide (m = 1)) = R at *
  unfold maxLen at hm
  rcases hk with rfl | rfl | rfl | rfl | rfl | rfl | rfl | rfl | rfl | rfl
  all_goals
    go_enter Tryd.func26, Tryd.ntmps26
    go_wp2_with (go_at_call 42; refine (C _).mono ?_; rintro e w' ⟨rfl, rfl⟩)
    go_ret
    exact ⟨rfl, rfl⟩

set_option maxRecDepth 100000 in
set_option maxHeartbeats 1000000 in
theorem shape_two (k : Int) (hk : k = 19 ∨ k = 21) (hl : K.length = m) (hm : m ≤ maxLen) (hK : KAt B w a K) :
    Calls Tryd.prog 26 #[.int .i64 k, .slice a m c] w fun e w' => e = .returned (.bool (shapeL k K)) ∧ w' = w := by
  have C := fun c => exprs_any B w K a m c 2 hl hm (by decide) hK
  have HS : Hid (shapeL k K = (allE isEx K && decide (m = 2))) := by
    unfold Hid
    rw [← hl]
    rcases hk with rfl | rfl <;> rfl
  rw [HS.out]
  generalize (allE isEx K && decide (m = 2)) = R at *
  unfold maxLen at hm
  rcases hk with rfl | rfl
  all_goals
    go_enter Tryd.func26, Tryd.ntmps26
    go_wp2_with (go_at_call 42; refine (C _).mono ?_; rintro e w' ⟨rfl, rfl⟩)
    go_ret
    exact ⟨rfl, rfl⟩

set_option maxRecDepth 100000 in
set_option maxHeartbeats 1000000 in
theorem shape_call (hl : K.length = m) (hm : m ≤ maxLen) (hK : KAt B w a K) :
    Calls Tryd.prog 26 #[.int .i64 22, .slice a m c] w fun e w' => e = .returned (.bool (shapeL 22 K)) ∧ w' = w := by
  have C := fun c => exprs_any B w K a m c m hl hm hm hK
  have HS : Hid (shapeL 22 K = (allE isEx K && decide (m = m))) := by
    unfold Hid
    simp only [decide_true, Bool.and_true]
    rfl
  rw [HS.out]
  generalize (allE isEx K && decide (m = m)) = R at *
  unfold maxLen at hm
  go_enter Tryd.func26, Tryd.ntmps26
  go_wp2_with (go_at_call 42; refine (C _).mono ?_; rintro e w' ⟨rfl, rfl⟩)
  go_ret
  exact ⟨rfl, rfl⟩

set_option maxRecDepth 100000 in
set_option maxHeartbeats 1000000 in
theorem shape_none (k : Int) (hk : k = 14 ∨ k = 15 ∨ k = 16 ∨ k = 17 ∨ k = 23 ∨ k = 26 ∨ k = 28 ∨ k = 30) (hl : K.length = m) (hm : m ≤ maxLen) :
    Calls Tryd.prog 26 #[.int .i64 k, .slice a m c] w fun e w' => e = .returned (.bool (shapeL k K)) ∧ w' = w := by
  have HS : Hid (shapeL k K = ((m : Int) == 0)) := by
    unfold Hid
    have : shapeL k K = decide (K.length = 0) := by rcases hk with rfl | rfl | rfl | rfl | rfl | rfl | rfl | rfl <;> rfl
    rw [this, hl, Bool.eq_iff_iff]
    simp
  rw [HS.out]
  unfold maxLen at hm
  rcases hk with rfl | rfl | rfl | rfl | rfl | rfl | rfl | rfl
  all_goals
    go_enter Tryd.func26, Tryd.ntmps26
    go_wp2
    go_ret
    exact ⟨rfl, rfl⟩

set_option maxRecDepth 100000 in
set_option maxHeartbeats 1000000 in
theorem shape_do (hl : K.length = m) (hm : m ≤ maxLen) (hK : KAt B w a K) :
    Calls Tryd.prog 26 #[.int .i64 12, .slice a m c] w fun e w' => e = .returned (.bool (shapeL 12 K)) ∧ w' = w := by
  by_cases h1 : m = 1
  · subst h1
    match K, hl with
    | [q], _ =>
      obtain ⟨b, o, rfl, hb, hc⟩ := hK 0 q rfl
      have HS : Hid (shapeL 12 [q] = (q == 22)) := rfl
      rw [HS.out]
      clear HS
      simp only [Nat.add_zero] at hc
      go_enter Tryd.func26, Tryd.ntmps26
      go_wp2
      go_ret
      exact ⟨rfl, rfl⟩
  · have HS : Hid (shapeL 12 K = false) := by
      unfold Hid
      have : shapeL 12 K = (decide (K.length = 1) && (K.getD 0 0 == 22)) := rfl
      rw [this, hl]; simp [h1]
    rw [HS.out]
    unfold maxLen at hm
    have h1' : ((m : Int) == 1) = false := beq_int_false (by omega)
    go_enter Tryd.func26, Tryd.ntmps26
    go_wp2
    all_goals first | (exfalso; omega) | skip
    go_ret
    exact ⟨rfl, rfl⟩

set_option maxRecDepth 100000 in
set_option maxHeartbeats 1000000 in
theorem shape_while (hl : K.length = m) (hm : m ≤ maxLen) (hK : KAt B w a K) :
    Calls Tryd.prog 26 #[.int .i64 8, .slice a m c] w fun e w' => e = .returned (.bool (shapeL 8 K)) ∧ w' = w := by
  by_cases h1 : m = 2
  · subst h1
    match K, hl with
    | [q, r], _ =>
      obtain ⟨b, o, rfl, hb, hc⟩ := hK 0 q rfl
      obtain ⟨b', o', e, _, hd⟩ := hK 1 r rfl
      injection e with e
      injection e with e1 e2
      subst e1 e2
      have HS : Hid (shapeL 8 [q, r] = (isEx q && (r == 4))) := rfl
      rw [HS.out]
      clear HS
      simp only [Nat.add_zero] at hc
      have C := fun w => Expr_any q w
      generalize isEx q = R at *
      cases R with
      | true =>
        go_enter Tryd.func26, Tryd.ntmps26
        go_wp2_with (go_at_call 43; refine (C _).mono ?_; rintro e w' ⟨rfl, rfl⟩)
        go_ret
        exact ⟨rfl, rfl⟩
      | false =>
        go_enter Tryd.func26, Tryd.ntmps26
        go_wp2_with (go_at_call 43; refine (C _).mono ?_; rintro e w' ⟨rfl, rfl⟩)
        go_ret
        exact ⟨rfl, rfl⟩
  · have HS : Hid (shapeL 8 K = false) := by
      unfold Hid
      have : shapeL 8 K = (decide (K.length = 2) && isEx (K.getD 0 0) && (K.getD 1 0 == 4)) := rfl
      rw [this, hl]; simp [h1]
    rw [HS.out]
    unfold maxLen at hm
    have h1' : ((m : Int) == 2) = false := beq_int_false (by omega)
    go_enter Tryd.func26, Tryd.ntmps26
    go_wp2
    all_goals first | (exfalso; omega) | skip
    go_ret
    exact ⟨rfl, rfl⟩

set_option maxRecDepth 100000 in
set_option maxHeartbeats 1000000 in
theorem shape_if (hl : K.length = m) (hm : m ≤ maxLen) (hK : KAt B w a K) :
    Calls Tryd.prog 26 #[.int .i64 7, .slice a m c] w fun e w' => e = .returned (.bool (shapeL 7 K)) ∧ w' = w := by
  by_cases h1 : m = 3
  · subst h1
    match K, hl with
    | [q, r, s], _ =>
      obtain ⟨b, o, rfl, hb, hc⟩ := hK 0 q rfl
      obtain ⟨b', o', e, _, hd⟩ := hK 1 r rfl
      injection e with e
      injection e with e1 e2
      subst e1 e2
      obtain ⟨b', o', e, _, hf⟩ := hK 2 s rfl
      injection e with e
      injection e with e1 e2
      subst e1 e2
      have HS : Hid (shapeL 7 [q, r, s] = (isEx q && (r == 4) && (s == 4 || s == 14))) := rfl
      rw [HS.out]
      clear HS
      simp only [Nat.add_zero] at hc
      have C := fun w => Expr_any q w
      generalize isEx q = R at *
      by_cases h4 : r = 4
      · subst h4
        by_cases h5 : s = 4
        · subst h5
          cases R
          all_goals
            go_enter Tryd.func26, Tryd.ntmps26
            go_wp2_with (go_at_call 43; refine (C _).mono ?_; rintro e w' ⟨rfl, rfl⟩)
            go_ret
            exact ⟨rfl, rfl⟩
        · have h5' : (s == 4) = false := by simp [h5]
          rw [h5']
          cases R
          all_goals
            go_enter Tryd.func26, Tryd.ntmps26
            go_wp2_with (go_at_call 43; refine (C _).mono ?_; rintro e w' ⟨rfl, rfl⟩)
            all_goals first | (exfalso; omega) | skip
            go_ret
            exact ⟨rfl, rfl⟩
      · have h4' : (r == 4) = false := by simp [h4]
        rw [h4']
        cases R
        all_goals
          go_enter Tryd.func26, Tryd.ntmps26
          go_wp2_with (go_at_call 43; refine (C _).mono ?_; rintro e w' ⟨rfl, rfl⟩)
          all_goals first | (exfalso; omega) | skip
          go_ret
          exact ⟨rfl, rfl⟩
  · have HS : Hid (shapeL 7 K = false) := by
      unfold Hid
      have : shapeL 7 K = (decide (K.length = 3) && isEx (K.getD 0 0) && (K.getD 1 0 == 4) && (K.getD 2 0 == 4 || K.getD 2 0 == 14)) := rfl
      rw [this, hl]; simp [h1]
    rw [HS.out]
    unfold maxLen at hm
    have h1' : ((m : Int) == 3) = false := beq_int_false (by omega)
    go_enter Tryd.func26, Tryd.ntmps26
    go_wp2
    all_goals first | (exfalso; omega) | skip
    go_ret
    exact ⟨rfl, rfl⟩

set_option maxRecDepth 100000 in
set_option maxHeartbeats 1000000 in
theorem shape_set (hl : K.length = m) (hm : m ≤ maxLen) (hK : KAt B w a K) :
    Calls Tryd.prog 26 #[.int .i64 6, .slice a m c] w fun e w' => e = .returned (.bool (shapeL 6 K)) ∧ w' = w := by
  have C := fun c => exprs_any B w K a m c 2 hl hm (by decide) hK
  have HS : Hid (shapeL 6 K = (allE isEx K && decide (m = 2) && (K.headD 0 == 17 || K.headD 0 == 20 || K.headD 0 == 21 || K.headD 0 == 30))) := by unfold Hid; rw [← hl]; rfl
  cases hr : (allE isEx K && decide (m = 2)) with
  | false =>
    rw [hr] at C
    rw [HS.out, hr]
    unfold maxLen at hm
    clear HS hr
    go_enter Tryd.func26, Tryd.ntmps26
    go_wp2_with (go_at_call 42; refine (C _).mono ?_; rintro e w' ⟨rfl, rfl⟩)
    go_ret
    exact ⟨by rw [Bool.false_and]; rfl, rfl⟩
  | true =>
    rw [hr] at C
    rw [HS.out, hr]
    have hm2 : m = 2 := by simp at hr; exact hr.2
    clear HS hr hm
    subst hm2
    match K, hl with
    | [q, r], _ =>
      obtain ⟨b, o, rfl, hb, hc⟩ := hK 0 q rfl
      simp only [Nat.add_zero] at hc
      have HS : Hid ((true && ([q, r].headD 0 == 17 || [q, r].headD 0 == 20 || [q, r].headD 0 == 21 || [q, r].headD 0 == 30)) = (q == 17 || q == 20 || q == 21 || q == 30)) := rfl
      rw [HS.out]
      clear HS
      go_enter Tryd.func26, Tryd.ntmps26
      go_wp2_with (go_at_call 42; refine (C _).mono ?_; rintro e w' ⟨rfl, rfl⟩)
      all_goals go_ret
      all_goals refine ⟨congrArg (fun b => Ending.returned (Value.bool b)) ?_, rfl⟩
      all_goals first | rfl | (simp_all; done) | skip

set_option maxRecDepth 100000 in
set_option maxHeartbeats 1000000 in
theorem shape_fn (hl : K.length = m) (hm : m ≤ maxLen) (hmc : m ≤ c) (hK : KAt B w a K) :
    Calls Tryd.prog 26 #[.int .i64 3, .slice a m c] w fun e w' => e = .returned (.bool (shapeL 3 K)) ∧ w' = w := by
  by_cases h0 : m = 0
  · subst h0
    have : K = [] := by rw [← List.length_eq_zero_iff]; exact hl
    subst this
    have HS : Hid (shapeL 3 [] = false) := rfl
    rw [HS.out]
    go_enter Tryd.func26, Tryd.ntmps26
    go_wp2
    go_ret
    exact ⟨rfl, rfl⟩
  · have hx : K[m - 1]? = some (K[m - 1]'(by omega)) := List.getElem?_eq_getElem _
    generalize K[m - 1]'(by omega) = q at hx
    obtain ⟨b, o, rfl, hb, hc⟩ := hK (m - 1) q hx
    have hKt : KAt B w (some ⟨b, o, none⟩) (K.take (m - 1)) := fun j k hj => by
      refine hK j k ?_
      rw [List.getElem?_take] at hj
      split at hj
      · exact hj
      · cases hj
    have C := fun c => all_any B w (K.take (m - 1)) (some ⟨b, o, none⟩) (m - 1) c 17 (by simp; omega) (by omega) hKt
    have HS : Hid (shapeL 3 K = (allE (· == 17) (K.take (m - 1)) && (q == 4))) := by
      unfold Hid
      have e1 : shapeL 3 K = (decide (0 < K.length) && (K.take (K.length - 1)).all (· == 17) && decide (K.getLastD 0 = 4)) := rfl
      have e2 : K.getLastD 0 = q := by rw [List.getLastD_eq_getLast?, List.getLast?_eq_getElem?, hl, hx]; rfl
      rw [e1, e2, hl, decide_eq_true (show 0 < m by omega), Bool.true_and]
      rfl
    rw [HS.out]
    clear HS hx hK hKt
    generalize allE (· == 17) (K.take (m - 1)) = R at *
    have hp1 : (m : Int) - 1 = ((m - 1 : Nat) : Int) := by omega
    unfold maxLen at hm
    cases R
    all_goals
      go_enter Tryd.func26, Tryd.ntmps26
      go_wp2_with (go_at_call 40; refine (C _).mono ?_; rintro e w' ⟨rfl, rfl⟩)
      go_ret
      exact ⟨rfl, rfl⟩
end
theorem shape_any (B : Nat) (w : World) (K : List Int) (a : Option Addr) (m c : Nat) (k : Int) (hk : 1 ≤ k ∧ k ≤ 30) (hl : K.length = m) (hm : m ≤ maxLen) (hmc : m ≤ c) (hK : KAt B w a K) :
    Calls Tryd.prog 26 #[.int .i64 k, .slice a m c] w fun e w' => e = .returned (.bool (shapeL k K)) ∧ w' = w := by
  have hc : k = 1 ∨ k = 3 ∨ k = 4 ∨ k = 6 ∨ k = 7 ∨ k = 8 ∨ k = 12 ∨ k = 22 ∨ (k = 2 ∨ k = 13) ∨ (k = 5 ∨ k = 9 ∨ k = 10 ∨ k = 11 ∨ k = 18 ∨ k = 20 ∨ k = 24 ∨ k = 25 ∨ k = 27 ∨ k = 29) ∨ (k = 19 ∨ k = 21) ∨ (k = 14 ∨ k = 15 ∨ k = 16 ∨ k = 17 ∨ k = 23 ∨ k = 26 ∨ k = 28 ∨ k = 30) := by omega
  rcases hc with rfl | rfl | rfl | rfl | rfl | rfl | rfl | rfl | h | h | h | h
  · exact shape_prog hl hm hK
  · exact shape_fn hl hm hmc hK
  · exact shape_block hl hm hK
  · exact shape_set hl hm hK
  · exact shape_if hl hm hK
  · exact shape_while hl hm hK
  · exact shape_do hl hm hK
  · exact shape_call hl hm hK
  · exact shape_names k h hl hm hK
  · exact shape_one k h hl hm hK
  · exact shape_two k h hl hm hK
  · exact shape_none k h hl hm
end Go.Proofs.YtajkkjohoedhaaaDoor
