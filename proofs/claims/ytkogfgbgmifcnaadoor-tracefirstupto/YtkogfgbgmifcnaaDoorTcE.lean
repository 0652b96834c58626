/-
  Whether a source is of a kind, with that kind's fields alone; conditions: what lies in memory lies as told.
-/
import Derived.Test.YtkogfgbgmifcnaaDoorTcD
import Derived.BigQuiet
import Derived.Deep.RegionHeld3
import Derived.Deep.QuietTactic
namespace Go.Proofs.YtkogfgbgmifcnaaDoor
open Go.RowKit Go.Shelf Go.Maps Go.ChangeShapes
set_option linter.unusedVariables false
set_option linter.unusedSimpArgs false
/-- A source that may be, of so many Virts. -/
def srcOk (s : Sr) (nv : Nat) : Bool := if s.k = 0 then decide (s.n = 0) else if s.k = 1 then decide (0 ≤ s.n) && decide (s.vk = 0 ∧ s.vn = 0) else if s.k = 2 then (decide (0 ≤ s.n) && decide (s.n ≤ (nv : Int) - 1)) && decide (s.vk = 0 ∧ s.vn = 0) else false
theorem Fr.drawn {w : World} (n : Nat) : Fr [] w (w.drewN n) := (Fr.refl _ _).drewN n
theorem Jd.of {ok : Bool} {p : Int} {w w' : World} {e : Ending} (h : e = (if ok then .returned (.tuple #[]) else thrown p)) (f : Fr [] w w') : Jd ok p w e w' := ⟨h, f⟩
set_option maxRecDepth 100000 in
set_option maxHeartbeats 8000000 in
theorem source111 {w : World} {t : Tr} {jb : Nat} {p : Int} {wp : Value} (h : JB w jb t p wp) (hv : t.virts.length ≤ 140737488355328) (s : Sr) (hs : s.w) : Calls Tryd.prog 111 #[.pointer (some ⟨jb, 0, none⟩), .agg s.cl.toArray] w (Jd (srcOk s t.virts.length) p w) := by
  obtain ⟨k, vk, vn, n⟩ := s
  simp only [Sr.w, Sr.il, List.mem_cons, List.not_mem_nil, or_false, forall_eq_or_imp, forall_eq] at hs
  obtain ⟨hk, hvk, hvn, hn⟩ := hs
  have w0 : (Lit.int .i64 0).wf = true := by decide
  have F1 : Fr [] w (w.alloc (.cells #[.int .i64 k, .int .i64 vk, .int .i64 vn, .int .i64 n] 51)) := (Fr.refl _ _).alloc _
  have hx := heap_alloc_new w (.cells #[.int .i64 k, .int .i64 vk, .int .i64 vn, .int .i64 n] 51)
  have c0 : (w.alloc (.cells #[.int .i64 k, .int .i64 vk, .int .i64 vn, .int .i64 n] 51)).cell? ⟨w.heap.size, 0, none⟩ = some (.int .i64 k) := at_cells hx 0 rfl
  have c1 : (w.alloc (.cells #[.int .i64 k, .int .i64 vk, .int .i64 vn, .int .i64 n] 51)).cell? ⟨w.heap.size, 1, none⟩ = some (.int .i64 vk) := at_cells hx 1 rfl
  have c2 : (w.alloc (.cells #[.int .i64 k, .int .i64 vk, .int .i64 vn, .int .i64 n] 51)).cell? ⟨w.heap.size, 2, none⟩ = some (.int .i64 vn) := at_cells hx 2 rfl
  have c3 : (w.alloc (.cells #[.int .i64 k, .int .i64 vk, .int .i64 vn, .int .i64 n] 51)).cell? ⟨w.heap.size, 3, none⟩ = some (.int .i64 n) := at_cells hx 3 rfl
  have hj := h.fr0 F1
  have j15 : (w.alloc (.cells #[.int .i64 k, .int .i64 vk, .int .i64 vn, .int .i64 n] 51)).cell? ⟨jb, 15, none⟩ = some (.slice t.va t.virts.length t.vc) := at_cells hj 15 (t.jc_arr p wp t.at_virts)
  have e23 := fun w => eql23 w hvk hvn w0 w0
  have g23 := eguard23
  have hnv : (t.virts.length : Int) ≤ 140737488355328 := by omega
  have HJ : Hid (JB (w.alloc (.cells #[.int .i64 k, .int .i64 vk, .int .i64 vn, .int .i64 n] 51)) jb t p wp ∧ Fr [] w (w.alloc (.cells #[.int .i64 k, .int .i64 vk, .int .i64 vn, .int .i64 n] 51))) := ⟨hj, F1⟩
  clear hk hvk hvn hn w0 hx hj F1 h hv
  show Calls Tryd.prog 111 #[.pointer (some ⟨jb, 0, none⟩), .agg #[.int .i64 k, .int .i64 vk, .int .i64 vn, .int .i64 n]] w _
  unfold Jd
  have HW : Hid (JB (w.alloc (.cells #[.int .i64 k, .int .i64 vk, .int .i64 vn, .int .i64 n] 51)) jb t p wp) := HJ.out.1
  by_cases k0 : k = 0
  · subst k0
    rw [show srcOk ⟨0, vk, vn, n⟩ t.virts.length = decide (n = 0) from rfl]
    have CY := want_any HJ.out.1 (decide (n = 0))
    by_cases h0 : n = 0
    · subst h0
      rw [decide_eq_true rfl] at CY ⊢
      simp only [if_true] at CY ⊢
      go_enter Tryd.func111, Tryd.ntmps111
      go_upto_region 1 with fail
      generalize w.alloc (.cells #[.int .i64 0, .int .i64 vk, .int .i64 vn, .int .i64 0] 51) = W at *
      go_wp2_with (go_at_call 110; refine CY.mono ?_; rintro e w' ⟨rfl, rfl⟩)
      exact bodyPost_ret (results_none rfl _ _ _) rfl ⟨rfl, HJ.out.2⟩
    · have d0 : (n == 0) = false := beq_int_false h0
      rw [decide_eq_false h0] at CY ⊢
      simp only [Bool.false_eq_true, if_false] at CY ⊢
      clear h0
      unfold thrown at *
      go_enter Tryd.func111, Tryd.ntmps111
      go_upto_region 1 with fail
      generalize w.alloc (.cells #[.int .i64 0, .int .i64 vk, .int .i64 vn, .int .i64 n] 51) = W at *
      go_wp2_with (go_at_call 110; refine CY.mono ?_; rintro e w' ⟨rfl, rfl⟩)
      exact ⟨rfl, rfl, HJ.out.2⟩
  · have q0 : (k == 0) = false := beq_int_false k0
    by_cases k1 : k = 1
    · subst k1
      rw [show srcOk ⟨1, vk, vn, n⟩ t.virts.length = (decide (0 ≤ n) && decide (vk = 0 ∧ vn = 0)) from rfl]
      clear k0
      have CY := want_any HJ.out.1 (decide (0 ≤ n))
      have CV := want_any HJ.out.1 (decide (vk = 0 ∧ vn = 0))
      by_cases h0 : 0 ≤ n
      · rw [decide_eq_true h0] at CY ⊢
        simp only [if_true, Bool.true_and] at CY ⊢
        cases hb : decide (vk = 0 ∧ vn = 0) with
        | true =>
          rw [hb] at CV
          simp only [if_true, hb] at CV e23 ⊢
          clear hb
          go_enter Tryd.func111, Tryd.ntmps111
          go_upto_region 1 with fail
          generalize w.alloc (.cells #[.int .i64 1, .int .i64 vk, .int .i64 vn, .int .i64 n] 51) = W at *
          go_upto_region 9 with (go_at_call 110; refine CY.mono ?_; rintro e w' ⟨rfl, rfl⟩)
          go_wp2_with (go_at_call 110; refine CV.mono ?_; rintro e w' ⟨rfl, rfl⟩)
          go_end0
          exact ⟨rfl, HJ.out.2⟩
        | false =>
          rw [hb] at CV
          simp only [Bool.false_eq_true, if_false, hb] at CV e23 ⊢
          clear hb
          unfold thrown at *
          go_enter Tryd.func111, Tryd.ntmps111
          go_upto_region 1 with fail
          generalize w.alloc (.cells #[.int .i64 1, .int .i64 vk, .int .i64 vn, .int .i64 n] 51) = W at *
          go_upto_region 9 with (go_at_call 110; refine CY.mono ?_; rintro e w' ⟨rfl, rfl⟩)
          go_wp2_with (go_at_call 110; refine CV.mono ?_; rintro e w' ⟨rfl, rfl⟩)
          exact ⟨rfl, rfl, HJ.out.2⟩
      · have d0 : decide (0 ≤ n) = false := decide_eq_false h0
        rw [d0] at CY ⊢
        simp only [Bool.false_eq_true, if_false, Bool.false_and] at CY ⊢
        unfold thrown at *
        go_enter Tryd.func111, Tryd.ntmps111
        go_upto_region 1 with fail
        generalize w.alloc (.cells #[.int .i64 1, .int .i64 vk, .int .i64 vn, .int .i64 n] 51) = W at *
        go_wp2_with (go_at_call 110; refine CY.mono ?_; rintro e w' ⟨rfl, rfl⟩)
        exact ⟨rfl, rfl, HJ.out.2⟩
    · have q1 : (k == 1) = false := beq_int_false k1
      by_cases k2 : k = 2
      · subst k2
        rw [show srcOk ⟨2, vk, vn, n⟩ t.virts.length = ((decide (0 ≤ n) && decide (n ≤ (t.virts.length : Int) - 1)) && decide (vk = 0 ∧ vn = 0)) from rfl]
        clear k0 k1
        have HF : Hid (Fr [] w (w.alloc (.cells #[.int .i64 2, .int .i64 vk, .int .i64 vn, .int .i64 n] 51))) := HJ.out.2
        have RF : Fr [] (w.alloc (.cells #[.int .i64 2, .int .i64 vk, .int .i64 vn, .int .i64 n] 51)) (w.alloc (.cells #[.int .i64 2, .int .i64 vk, .int .i64 vn, .int .i64 n] 51)) := Fr.refl _ _
        have HD : ∀ w' : World, Fr [] (w.alloc (.cells #[.int .i64 2, .int .i64 vk, .int .i64 vn, .int .i64 n] 51)) w' → Fr [] (w.alloc (.cells #[.int .i64 2, .int .i64 vk, .int .i64 vn, .int .i64 n] 51)) w'.drew := fun w' h => h.drew
        have m1 : ∀ w', Fr [] (w.alloc (.cells #[.int .i64 2, .int .i64 vk, .int .i64 vn, .int .i64 n] 51)) w' → w'.cell? ⟨w.heap.size, 1, none⟩ = some (.int .i64 vk) := fun w' f => f.cell1 c1 (by simp)
        have m2 : ∀ w', Fr [] (w.alloc (.cells #[.int .i64 2, .int .i64 vk, .int .i64 vn, .int .i64 n] 51)) w' → w'.cell? ⟨w.heap.size, 2, none⟩ = some (.int .i64 vn) := fun w' f => f.cell1 c2 (by simp)
        have m3 : ∀ w', Fr [] (w.alloc (.cells #[.int .i64 2, .int .i64 vk, .int .i64 vn, .int .i64 n] 51)) w' → w'.cell? ⟨w.heap.size, 3, none⟩ = some (.int .i64 n) := fun w' f => f.cell1 c3 (by simp)
        have j5 : ∀ w', Fr [] (w.alloc (.cells #[.int .i64 2, .int .i64 vk, .int .i64 vn, .int .i64 n] 51)) w' → w'.cell? ⟨jb, 15, none⟩ = some (.slice t.va t.virts.length t.vc) := fun w' f => f.cell1 j15 (by simp)
        have CW : ∀ w', Fr [] (w.alloc (.cells #[.int .i64 2, .int .i64 vk, .int .i64 vn, .int .i64 n] 51)) w' → Calls Tryd.prog 94 #[.pointer (some ⟨jb, 0, none⟩), .int .i64 n, .int .i64 0, .int .i64 ((t.virts.length : Int) - 1)] w' _ := fun w' f => within_any (HJ.out.1.fr0 f) n 0 ((t.virts.length : Int) - 1)
        have CV : ∀ w', Fr [] (w.alloc (.cells #[.int .i64 2, .int .i64 vk, .int .i64 vn, .int .i64 n] 51)) w' → Calls Tryd.prog 110 #[.pointer (some ⟨jb, 0, none⟩), .bool (decide (vk = 0 ∧ vn = 0))] w' _ := fun w' f => want_any (HJ.out.1.fr0 f) (decide (vk = 0 ∧ vn = 0))
        have hl1 : IntKind.i64.wrap ((t.virts.length : Int) - 1) = (t.virts.length : Int) - 1 := by rw [IntKind.wrap_i64]; omega
        clear HJ HW c1 c2 j15
        cases ha : (decide (0 ≤ n) && decide (n ≤ (t.virts.length : Int) - 1)) with
        | true =>
          rw [ha] at CW
          simp only [if_true, Bool.true_and] at CW ⊢
          cases hb : decide (vk = 0 ∧ vn = 0) with
          | true =>
            rw [hb] at CV
            simp only [if_true, hb] at CV e23 ⊢
            clear hb ha
            go_enter Tryd.func111, Tryd.ntmps111
            go_upto_region 1 with fail
            generalize w.alloc (.cells #[.int .i64 2, .int .i64 vk, .int .i64 vn, .int .i64 n] 51) = W0 at *
            go_upto_region 8 with fail
            go_region_held3 (fun w' : World => Fr [] W0 w')
              (with_reducible (first | assumption | exact HD _ (by assumption)))
              (first
                | (go_at_call 94; with_reducible (refine (CW _ (by assumption)).mono ?_); rintro e w1 ⟨rfl, rfl⟩))
            have G1 : Fr [] W0 W0.drew := HD _ RF
            have n1 := m1 _ G1
            have n2 := m2 _ G1
            go_wp2_with (go_at_call 110; with_reducible (refine (CV _ G1).mono ?_); rintro e w1 ⟨rfl, rfl⟩)
            go_end0
            exact ⟨rfl, HF.out.trans G1⟩
          | false =>
            rw [hb] at CV
            simp only [Bool.false_eq_true, if_false, hb] at CV e23 ⊢
            clear hb ha
            unfold thrown at *
            go_enter Tryd.func111, Tryd.ntmps111
            go_upto_region 1 with fail
            generalize w.alloc (.cells #[.int .i64 2, .int .i64 vk, .int .i64 vn, .int .i64 n] 51) = W0 at *
            go_upto_region 8 with fail
            go_region_held3 (fun w' : World => Fr [] W0 w')
              (with_reducible (first | assumption | exact HD _ (by assumption)))
              (first
                | (go_at_call 94; with_reducible (refine (CW _ (by assumption)).mono ?_); rintro e w1 ⟨rfl, rfl⟩))
            have G1 : Fr [] W0 W0.drew := HD _ RF
            have n1 := m1 _ G1
            have n2 := m2 _ G1
            go_wp2_with (go_at_call 110; with_reducible (refine (CV _ G1).mono ?_); rintro e w1 ⟨rfl, rfl⟩)
            exact ⟨rfl, rfl, HF.out.trans G1⟩
        | false =>
          rw [ha] at CW
          simp only [Bool.false_eq_true, if_false, Bool.false_and] at CW ⊢
          clear ha CV
          unfold thrown at *
          go_enter Tryd.func111, Tryd.ntmps111
          go_upto_region 1 with fail
          generalize w.alloc (.cells #[.int .i64 2, .int .i64 vk, .int .i64 vn, .int .i64 n] 51) = W0 at *
          have m3' := m3 _ RF
          have j5' := j5 _ RF
          go_upto_region 8 with fail
          go_region_dies
          all_goals
            with_reducible (refine (CW _ (HD _ RF)).mono ?_)
            rintro e w1 ⟨rfl, rfl⟩
            exact ⟨rfl, rfl, HF.out.trans (HD _ RF)⟩
      · have q2 : (k == 2) = false := beq_int_false k2
        rw [show srcOk ⟨k, vk, vn, n⟩ t.virts.length = false by unfold srcOk; rw [if_neg k0, if_neg k1, if_neg k2]]
        have CY := want_any HJ.out.1 false
        clear k0 k1 k2
        simp only [Bool.false_eq_true, if_false] at CY ⊢
        unfold thrown at *
        go_enter Tryd.func111, Tryd.ntmps111
        go_upto_region 1 with fail
        generalize w.alloc (.cells #[.int .i64 k, .int .i64 vk, .int .i64 vn, .int .i64 n] 51) = W at *
        go_wp2_with (go_at_call 110; refine CY.mono ?_; rintro e w' ⟨rfl, rfl⟩)
        exact ⟨rfl, rfl, HJ.out.2⟩
end Go.Proofs.YtkogfgbgmifcnaaDoor
