/-
  A member is looked for by its number: slices.BinarySearchFunc; condition: the row lies as told, sorted.
-/
import Derived.Test.YtnhjplfdfbbihaaCaW
import Derived.Deep.LoopGhost
namespace Go.Proofs.Ytnhjplfdfbbihaa
open Go.RowKit Go.Shelf Go.Lib Go.Sort
set_option linter.unusedVariables false
set_option linter.unusedSimpArgs false
theorem cmpI_lt {a b : Int} (h : a < b) : compareInt a b = -1 := by unfold compareInt; simp [h]
theorem cmpI_eq (a : Int) : compareInt a a = 0 := by unfold compareInt; simp
theorem cmpI_gt {a b : Int} (h : b < a) : compareInt a b = 1 := by unfold compareInt; simp [show ¬ a < b by omega, h]
set_option maxRecDepth 100000 in
set_option maxHeartbeats 4000000 in
theorem bs52_any {w : World} {B : Nat} {sv : Value} {L : List Mb} (t : Mb) (h : w.ownsRow B 83 11 sv L.length (flatM L)) (hs : Srt L) (hn : (L.length : Int) ≤ 1000000000000) :
    Calls Try.prog 52 #[sv, .agg (mcp t).toArray, .func (.func 33) #[] #[]] w fun e w' => ∃ i : Int, e = .returned (.tuple #[.int .i64 i, .bool (L.any (fun x => decide (x.1 = t.1)))]) ∧ Fr [] w w' := by
  have eg : ∀ args w, (callFunc 33 args).run Try.prog w = .ok (.enter 33 args) w := enters_of Try.func33 (by kernel_rfl) rfl
  obtain ⟨sa, sc, rfl, hsn⟩ := own_slice h
  generalize hA0 : L.any (fun x => decide (x.1 = t.1)) = ra
  have HA0 : Hid (L.any (fun x => decide (x.1 = t.1)) = ra) := hA0
  clear hA0
  have HO : Hid (w.ownsRow B 83 11 (.slice sa L.length sc) L.length (flatM L)) := h
  have HS : Hid (Srt L) := hs
  have HF0 : Hid (Fr [] w (w.alloc (.cells (mcp t).toArray 83))) := (Fr.refl _ _).alloc _
  have HB : Hid ((w.alloc (.cells (mcp t).toArray 83)).heap[w.heap.size]? = some (.cells (mcp t).toArray 83 (0, 0))) := heap_alloc_new w _
  clear h hs hsn
  go_enter Try.func52, Try.ntmps52
  go_upto_region 1 with fail
  generalize w.alloc (.cells (mcp t).toArray 83) = W at *
  go_wp2
  go_loopw [9, 10] (fun k l wr => ∃ lo hi : Nat, k = .int .i64 lo ∧ l = .int .i64 hi ∧ lo ≤ hi ∧ hi ≤ L.length ∧ Hid (Fr [] W wr ∧ (∀ j x, j < lo → L[j]? = some x → x.1 < t.1) ∧ (∀ j x, hi ≤ j → L[j]? = some x → t.1 ≤ x.1))) (fun k l _ => ((intOf l).toNat - (intOf k).toNat))
  case atStart => exact ⟨0, L.length, rfl, rfl, Nat.zero_le _, Nat.le_refl _, Fr.refl _ _, fun j x hj => absurd hj (Nat.not_lt_zero _), fun j x hj hx => absurd (List.getElem?_eq_some_iff.1 hx).1 (by omega)⟩
  case round =>
    obtain ⟨lo, hi, rfl, rfl, hlh, hin, I⟩ := hrel
    by_cases hlt : lo < hi
    · have hlI : (lo : Int) < hi := by omega
      obtain ⟨q, hq⟩ : ∃ q : Nat, q = (lo + hi) / 2 := ⟨_, rfl⟩
      have HQ : Hid (((lo : Int) + hi) / 2 = ((q : Nat) : Int)) := by show ((lo : Int) + hi) / 2 = ((q : Nat) : Int); omega
      have hq1 : lo ≤ q := by omega
      have hq2 : q < hi := by omega
      have hq3 : (q : Int) < L.length := by omega
      clear hq
      obtain ⟨x, hx⟩ : ∃ x, L[q]? = some x := ⟨_, List.getElem?_eq_getElem (by omega)⟩
      have hrow := own_fr HO.out (HF0.out.trans I.out.1) (by simp)
      obtain ⟨g, c', e1, _⟩ := own_cells hrow (j := q * 11) (List.getElem?_eq_getElem (by rw [flatM_len]; omega))
      cases e1
      have rx := rowM_at hrow hx
      have l1 : ∀ w', Fr [] wr w' → w'.rangeAt g (q * 11) (mcp x) := fun w' f => range_fr rx f
      have l2 : ∀ w', Fr [] wr w' → w'.rangeAt w.heap.size 0 (mcp t) := fun w' f => range_fr (range_block HB.out) (I.out.1.trans f)
      clear hrow rx
      by_cases hcmp : x.1 < t.1
      · have HN : Hid (∀ j y, j < q + 1 → L[j]? = some y → y.1 < t.1) := fun j y hj hy => by
          by_cases hjq : j = q
          · subst hjq; rw [hx] at hy; cases hy; exact hcmp
          · have := List.pairwise_iff_getElem.1 HS.out j q (List.getElem?_eq_some_iff.1 hy).1 (List.getElem?_eq_some_iff.1 hx).1 (by omega)
            rw [(List.getElem?_eq_some_iff.1 hy).2, (List.getElem?_eq_some_iff.1 hx).2] at this
            omega
        have hC : ∀ V, Calls Try.prog 33 (#[.agg (mcp x).toArray, .agg (mcp t).toArray] ++ #[]) V (fun e w' => e = .returned (.int .i64 (-1)) ∧ Fr [] V w') := fun V => (byID33 x t V).mono fun e w' ⟨h1, q0, os, h2⟩ => ⟨by rw [h1, cmpI_lt hcmp], by rw [h2]; exact ((Fr.refl [] V).drewN q0).grow os⟩
        clear hx hcmp
        go_upto_region 5 with fail
        rw [HQ.out]
        refine reg_in (fun w' => Fr [] wr w') ?_
        have hS : Fr [] wr wr.drew := (Fr.refl _ _).drew
        generalize wr.drew = Y at *
        refine tk 0 (some 24) (.func (.func 33) #[] #[]) rfl rfl (Or.inl ⟨rfl, fun wq hSq => by first | rfl | go_simp⟩) (by decide +kernel) hS ?_
        simp only [Act.put, List.setIfInBounds_toArray, List.set_cons_zero, List.set_cons_succ]
        refine tk 1 (some 25) (.slice (some ⟨g, 0, none⟩) L.length sc) rfl rfl (Or.inl ⟨rfl, fun wq hSq => by first | rfl | go_simp⟩) (by decide +kernel) hS ?_
        simp only [Act.put, List.setIfInBounds_toArray, List.set_cons_zero, List.set_cons_succ]
        refine tk 2 (some 26) (.int .i64 (q : Nat)) rfl rfl (Or.inl ⟨rfl, fun wq hSq => by first | rfl | go_simp⟩) (by decide +kernel) hS ?_
        simp only [Act.put, List.setIfInBounds_toArray, List.set_cons_zero, List.set_cons_succ]
        refine tk 3 (some 27) (.pointer (some ⟨g, q * 11, none⟩)) rfl rfl (Or.inl ⟨rfl, fun wq hSq => by go_simp⟩) (by decide +kernel) hS ?_
        simp only [Act.put, List.setIfInBounds_toArray, List.set_cons_zero, List.set_cons_succ]
        refine tk 4 (some 28) (.agg (mcp x).toArray) rfl rfl ?_ (by decide +kernel) hS ?_
        · exact yieldsIf_load_mid rfl 83 (.tmp 27) rfl g (q * 11) rfl (mcp x) _ l1 Try.underlying83 rfl (by rw [info83, mcp_len])
        simp only [Act.put, List.setIfInBounds_toArray, List.set_cons_zero, List.set_cons_succ]
        refine tk 5 (some 29) (.agg (mcp t).toArray) rfl rfl ?_ (by decide +kernel) hS ?_
        · exact yieldsIf_load_mid rfl 83 (.tmp 4) rfl w.heap.size 0 rfl (mcp t) _ l2 Try.underlying83 rfl (by rw [info83, mcp_len])
        simp only [Act.put, List.setIfInBounds_toArray, List.set_cons_zero, List.set_cons_succ]
        refine wpAnyH_ready (rs := [6]) (by decide +kernel) (by simp) ?_
        refine AllReadyH.cons rfl (fun K hK => ?_) AllReadyH.nil
        go_simp
        refine (hC _).mono ?_
        rintro e Y1 ⟨rfl, f1⟩
        have hS := hS.trans f1
        clear f1
        refine hK.out _ _ hS (fun _ => ?_)
        clear hK K
        try simp only [Act.put, List.setIfInBounds_toArray, List.set_cons_zero, List.set_cons_succ]
        refine tk 7 (some 31) (.bool true) rfl rfl (Or.inl ⟨rfl, fun wq hSq => by go_simp⟩) (by decide +kernel) hS ?_
        simp only [Act.put, List.setIfInBounds_toArray, List.set_cons_zero, List.set_cons_succ]
        refine wpAnyH_done (by decide +kernel) ?_ _
        refine plain_end ?_
        clear l1 l2 hC
        have HF : Hid (Fr [] W Y1) := I.out.1.trans hS
        clear hS
        go_wp2
        go_roundw
        case rel => exact ⟨q + 1, hi, by go_num, rfl, by omega, hin, HF.out, HN.out, I.out.2.2⟩
        case measure => simp [intOf]; omega
      · have HN : Hid (∀ j y, q ≤ j → L[j]? = some y → t.1 ≤ y.1) := fun j y hj hy => by
          by_cases hjq : j = q
          · subst hjq; rw [hx] at hy; cases hy; omega
          · have := List.pairwise_iff_getElem.1 HS.out q j (List.getElem?_eq_some_iff.1 hx).1 (List.getElem?_eq_some_iff.1 hy).1 (by omega)
            rw [(List.getElem?_eq_some_iff.1 hy).2, (List.getElem?_eq_some_iff.1 hx).2] at this
            omega
        obtain ⟨r, hr0, hr⟩ : ∃ r : Int, compareInt x.1 t.1 = r ∧ ¬ r < 0 := by
          by_cases h : x.1 = t.1
          · exact ⟨0, by rw [h]; exact cmpI_eq _, by omega⟩
          · exact ⟨1, cmpI_gt (by omega), by omega⟩
        have hC : ∀ V, Calls Try.prog 33 (#[.agg (mcp x).toArray, .agg (mcp t).toArray] ++ #[]) V (fun e w' => e = .returned (.int .i64 (r)) ∧ Fr [] V w') := fun V => (byID33 x t V).mono fun e w' ⟨h1, q0, os, h2⟩ => ⟨by rw [h1, hr0], by rw [h2]; exact ((Fr.refl [] V).drewN q0).grow os⟩
        clear hx hcmp
        go_upto_region 5 with fail
        rw [HQ.out]
        refine reg_in (fun w' => Fr [] wr w') ?_
        have hS : Fr [] wr wr.drew := (Fr.refl _ _).drew
        generalize wr.drew = Y at *
        refine tk 0 (some 24) (.func (.func 33) #[] #[]) rfl rfl (Or.inl ⟨rfl, fun wq hSq => by first | rfl | go_simp⟩) (by decide +kernel) hS ?_
        simp only [Act.put, List.setIfInBounds_toArray, List.set_cons_zero, List.set_cons_succ]
        refine tk 1 (some 25) (.slice (some ⟨g, 0, none⟩) L.length sc) rfl rfl (Or.inl ⟨rfl, fun wq hSq => by first | rfl | go_simp⟩) (by decide +kernel) hS ?_
        simp only [Act.put, List.setIfInBounds_toArray, List.set_cons_zero, List.set_cons_succ]
        refine tk 2 (some 26) (.int .i64 (q : Nat)) rfl rfl (Or.inl ⟨rfl, fun wq hSq => by first | rfl | go_simp⟩) (by decide +kernel) hS ?_
        simp only [Act.put, List.setIfInBounds_toArray, List.set_cons_zero, List.set_cons_succ]
        refine tk 3 (some 27) (.pointer (some ⟨g, q * 11, none⟩)) rfl rfl (Or.inl ⟨rfl, fun wq hSq => by go_simp⟩) (by decide +kernel) hS ?_
        simp only [Act.put, List.setIfInBounds_toArray, List.set_cons_zero, List.set_cons_succ]
        refine tk 4 (some 28) (.agg (mcp x).toArray) rfl rfl ?_ (by decide +kernel) hS ?_
        · exact yieldsIf_load_mid rfl 83 (.tmp 27) rfl g (q * 11) rfl (mcp x) _ l1 Try.underlying83 rfl (by rw [info83, mcp_len])
        simp only [Act.put, List.setIfInBounds_toArray, List.set_cons_zero, List.set_cons_succ]
        refine tk 5 (some 29) (.agg (mcp t).toArray) rfl rfl ?_ (by decide +kernel) hS ?_
        · exact yieldsIf_load_mid rfl 83 (.tmp 4) rfl w.heap.size 0 rfl (mcp t) _ l2 Try.underlying83 rfl (by rw [info83, mcp_len])
        simp only [Act.put, List.setIfInBounds_toArray, List.set_cons_zero, List.set_cons_succ]
        refine wpAnyH_ready (rs := [6]) (by decide +kernel) (by simp) ?_
        refine AllReadyH.cons rfl (fun K hK => ?_) AllReadyH.nil
        go_simp
        refine (hC _).mono ?_
        rintro e Y1 ⟨rfl, f1⟩
        have hS := hS.trans f1
        clear f1
        refine hK.out _ _ hS (fun _ => ?_)
        clear hK K
        try simp only [Act.put, List.setIfInBounds_toArray, List.set_cons_zero, List.set_cons_succ]
        refine tk 7 (some 31) (.bool false) rfl rfl (Or.inl ⟨rfl, fun wq hSq => by go_simp⟩) (by decide +kernel) hS ?_
        simp only [Act.put, List.setIfInBounds_toArray, List.set_cons_zero, List.set_cons_succ]
        refine wpAnyH_done (by decide +kernel) ?_ _
        refine plain_end ?_
        clear l1 l2 hC
        have HF : Hid (Fr [] W Y1) := I.out.1.trans hS
        clear hS
        go_wp2
        go_roundw
        case rel => exact ⟨lo, q, rfl, rfl, by omega, by omega, HF.out, I.out.2.1, HN.out⟩
        case measure => simp [intOf]; omega
    · have hle : lo = hi := by omega
      subst hle
      by_cases hln : lo < L.length
      · obtain ⟨x, hx⟩ : ∃ x, L[lo]? = some x := ⟨_, List.getElem?_eq_getElem hln⟩
        have hrow := own_fr HO.out (HF0.out.trans I.out.1) (by simp)
        obtain ⟨g, c', e1, _⟩ := own_cells hrow (j := lo * 11) (List.getElem?_eq_getElem (by rw [flatM_len]; omega))
        cases e1
        have rx := rowM_at hrow hx
        have l1 : ∀ w', Fr [] wr w' → w'.rangeAt g (lo * 11) (mcp x) := fun w' f => range_fr rx f
        have l2 : ∀ w', Fr [] wr w' → w'.rangeAt w.heap.size 0 (mcp t) := fun w' f => range_fr (range_block HB.out) (I.out.1.trans f)
        have hlo : (lo : Int) < L.length := by omega
        have htx := I.out.2.2 lo x (Nat.le_refl _) hx
        clear hrow rx
        by_cases hxt : x.1 = t.1
        · have HA : Hid (L.any (fun x => decide (x.1 = t.1)) = true) := by
            show L.any _ = true
            rw [List.any_eq_true]
            exact ⟨x, List.mem_of_getElem? hx, by simp [hxt]⟩
          have hcx : compareInt x.1 t.1 = 0 := by rw [hxt]; exact cmpI_eq _
          clear hxt htx hx
          have hC : ∀ V, Calls Try.prog 33 (#[.agg (mcp x).toArray, .agg (mcp t).toArray] ++ #[]) V (fun e w' => e = .returned (.int .i64 (0)) ∧ Fr [] V w') := fun V => (byID33 x t V).mono fun e w' ⟨h1, q0, os, h2⟩ => ⟨by rw [h1, hcx], by rw [h2]; exact ((Fr.refl [] V).drewN q0).grow os⟩
          clear hcx
          go_upto_region 8 with fail
          refine reg_in (fun w' => Fr [] wr w') ?_
          have hS : Fr [] wr wr.drew := (Fr.refl _ _).drew
          generalize wr.drew = Y at *
          refine tk 0 (some 35) (.int .i64 (lo : Nat)) rfl rfl (Or.inl ⟨rfl, fun wq hSq => by first | rfl | go_simp⟩) (by decide +kernel) hS ?_
          simp only [Act.put, List.setIfInBounds_toArray, List.set_cons_zero, List.set_cons_succ]
          refine tk 1 (some 36) (.int .i64 (lo : Nat)) rfl rfl (Or.inl ⟨rfl, fun wq hSq => by first | rfl | go_simp⟩) (by decide +kernel) hS ?_
          simp only [Act.put, List.setIfInBounds_toArray, List.set_cons_zero, List.set_cons_succ]
          refine tk 2 (some 37) (.int .i64 (L.length : Nat)) rfl rfl (Or.inl ⟨rfl, fun wq hSq => by first | rfl | go_simp⟩) (by decide +kernel) hS ?_
          simp only [Act.put, List.setIfInBounds_toArray, List.set_cons_zero, List.set_cons_succ]
          refine tk 3 (some 38) (.bool true) rfl rfl (Or.inl ⟨rfl, fun wq hSq => by go_simp⟩) (by decide +kernel) hS ?_
          simp only [Act.put, List.setIfInBounds_toArray, List.set_cons_zero, List.set_cons_succ]
          refine tk 4 (some 39) (.bool true) rfl rfl (Or.inl ⟨rfl, fun wq hSq => by go_simp⟩) (by decide +kernel) hS ?_
          simp only [Act.put, List.setIfInBounds_toArray, List.set_cons_zero, List.set_cons_succ]
          refine tk 5 (some 40) (.func (.func 33) #[] #[]) rfl rfl (Or.inl ⟨rfl, fun wq hSq => by first | rfl | go_simp⟩) (by decide +kernel) hS ?_
          simp only [Act.put, List.setIfInBounds_toArray, List.set_cons_zero, List.set_cons_succ]
          refine tk 6 (some 41) (.slice (some ⟨g, 0, none⟩) L.length sc) rfl rfl (Or.inl ⟨rfl, fun wq hSq => by first | rfl | go_simp⟩) (by decide +kernel) hS ?_
          simp only [Act.put, List.setIfInBounds_toArray, List.set_cons_zero, List.set_cons_succ]
          refine tk 7 (some 42) (.int .i64 (lo : Nat)) rfl rfl (Or.inl ⟨rfl, fun wq hSq => by first | rfl | go_simp⟩) (by decide +kernel) hS ?_
          simp only [Act.put, List.setIfInBounds_toArray, List.set_cons_zero, List.set_cons_succ]
          refine tk 8 (some 43) (.pointer (some ⟨g, lo * 11, none⟩)) rfl rfl (Or.inl ⟨rfl, fun wq hSq => by go_simp⟩) (by decide +kernel) hS ?_
          simp only [Act.put, List.setIfInBounds_toArray, List.set_cons_zero, List.set_cons_succ]
          refine tk 9 (some 44) (.agg (mcp x).toArray) rfl rfl ?_ (by decide +kernel) hS ?_
          · exact yieldsIf_load_mid rfl 83 (.tmp 43) rfl g (lo * 11) rfl (mcp x) _ l1 Try.underlying83 rfl (by rw [info83, mcp_len])
          simp only [Act.put, List.setIfInBounds_toArray, List.set_cons_zero, List.set_cons_succ]
          refine tk 10 (some 45) (.agg (mcp t).toArray) rfl rfl ?_ (by decide +kernel) hS ?_
          · exact yieldsIf_load_mid rfl 83 (.tmp 4) rfl w.heap.size 0 rfl (mcp t) _ l2 Try.underlying83 rfl (by rw [info83, mcp_len])
          simp only [Act.put, List.setIfInBounds_toArray, List.set_cons_zero, List.set_cons_succ]
          refine wpAnyH_ready (rs := [11]) (by decide +kernel) (by simp) ?_
          refine AllReadyH.cons rfl (fun K hK => ?_) AllReadyH.nil
          rw [if_pos (by rfl)]
          go_simp
          refine (hC _).mono ?_
          rintro e Y1 ⟨rfl, f1⟩
          have hS := hS.trans f1
          clear f1
          refine hK.out _ _ hS (fun _ => ?_)
          clear hK K
          try simp only [Act.put, List.setIfInBounds_toArray, List.set_cons_zero, List.set_cons_succ]
          refine tk 12 (some 47) (.bool true) rfl rfl (Or.inl ⟨rfl, fun wq hSq => by go_simp⟩) (by decide +kernel) hS ?_
          simp only [Act.put, List.setIfInBounds_toArray, List.set_cons_zero, List.set_cons_succ]
          refine tk 13 (some 48) (.bool true) rfl rfl (Or.inl ⟨rfl, fun wq hSq => by go_simp⟩) (by decide +kernel) hS ?_
          simp only [Act.put, List.setIfInBounds_toArray, List.set_cons_zero, List.set_cons_succ]
          refine tk 14 (some 6) (.int .i64 (lo : Nat)) rfl rfl (Or.inl ⟨rfl, fun wq hSq => by first | rfl | go_simp⟩) (by decide +kernel) hS ?_
          simp only [Act.put, List.setIfInBounds_toArray, List.set_cons_zero, List.set_cons_succ]
          refine tk 15 (some 7) (.bool true) rfl rfl (Or.inl ⟨rfl, fun wq hSq => by first | rfl | go_simp⟩) (by decide +kernel) hS ?_
          simp only [Act.put, List.setIfInBounds_toArray, List.set_cons_zero, List.set_cons_succ]
          refine wpAnyH_done (by decide +kernel) ?_ _
          refine plain_end ?_
          have HF : Hid (Fr [] W Y1) := I.out.1.trans hS
          clear hS l1 l2 hC
          go_wp2
          have hra := HA0.out.symm.trans HA.out
          subst hra
          first | exact bodyPost_ret (results_tmp2 rfl _ _ _) rfl ⟨lo, rfl, HF0.out.trans HF.out⟩ | exact bodyPost_ret (results_tmp2 rfl _ _ _) rfl ⟨⟨lo, rfl⟩, HF0.out.trans HF.out⟩
        · have HA : Hid (L.any (fun x => decide (x.1 = t.1)) = false) := by
            show L.any _ = false
            rw [List.any_eq_false]
            intro y hy
            obtain ⟨j, hj, rfl⟩ := List.getElem_of_mem hy
            rcases Nat.lt_trichotomy j lo with hjl | hjl | hjl
            · have := I.out.2.1 j _ hjl (List.getElem?_eq_getElem hj)
              simp; omega
            · subst hjl
              rw [List.getElem?_eq_getElem hj] at hx
              cases hx
              simpa using hxt
            · have := List.pairwise_iff_getElem.1 HS.out lo j hln hj hjl
              rw [(List.getElem?_eq_some_iff.1 hx).2] at this
              simp; omega
          have hcx : compareInt x.1 t.1 = 1 := cmpI_gt (by omega)
          clear hxt htx hx
          have hC : ∀ V, Calls Try.prog 33 (#[.agg (mcp x).toArray, .agg (mcp t).toArray] ++ #[]) V (fun e w' => e = .returned (.int .i64 (1)) ∧ Fr [] V w') := fun V => (byID33 x t V).mono fun e w' ⟨h1, q0, os, h2⟩ => ⟨by rw [h1, hcx], by rw [h2]; exact ((Fr.refl [] V).drewN q0).grow os⟩
          clear hcx
          go_upto_region 8 with fail
          refine reg_in (fun w' => Fr [] wr w') ?_
          have hS : Fr [] wr wr.drew := (Fr.refl _ _).drew
          generalize wr.drew = Y at *
          refine tk 0 (some 35) (.int .i64 (lo : Nat)) rfl rfl (Or.inl ⟨rfl, fun wq hSq => by first | rfl | go_simp⟩) (by decide +kernel) hS ?_
          simp only [Act.put, List.setIfInBounds_toArray, List.set_cons_zero, List.set_cons_succ]
          refine tk 1 (some 36) (.int .i64 (lo : Nat)) rfl rfl (Or.inl ⟨rfl, fun wq hSq => by first | rfl | go_simp⟩) (by decide +kernel) hS ?_
          simp only [Act.put, List.setIfInBounds_toArray, List.set_cons_zero, List.set_cons_succ]
          refine tk 2 (some 37) (.int .i64 (L.length : Nat)) rfl rfl (Or.inl ⟨rfl, fun wq hSq => by first | rfl | go_simp⟩) (by decide +kernel) hS ?_
          simp only [Act.put, List.setIfInBounds_toArray, List.set_cons_zero, List.set_cons_succ]
          refine tk 3 (some 38) (.bool true) rfl rfl (Or.inl ⟨rfl, fun wq hSq => by go_simp⟩) (by decide +kernel) hS ?_
          simp only [Act.put, List.setIfInBounds_toArray, List.set_cons_zero, List.set_cons_succ]
          refine tk 4 (some 39) (.bool true) rfl rfl (Or.inl ⟨rfl, fun wq hSq => by go_simp⟩) (by decide +kernel) hS ?_
          simp only [Act.put, List.setIfInBounds_toArray, List.set_cons_zero, List.set_cons_succ]
          refine tk 5 (some 40) (.func (.func 33) #[] #[]) rfl rfl (Or.inl ⟨rfl, fun wq hSq => by first | rfl | go_simp⟩) (by decide +kernel) hS ?_
          simp only [Act.put, List.setIfInBounds_toArray, List.set_cons_zero, List.set_cons_succ]
          refine tk 6 (some 41) (.slice (some ⟨g, 0, none⟩) L.length sc) rfl rfl (Or.inl ⟨rfl, fun wq hSq => by first | rfl | go_simp⟩) (by decide +kernel) hS ?_
          simp only [Act.put, List.setIfInBounds_toArray, List.set_cons_zero, List.set_cons_succ]
          refine tk 7 (some 42) (.int .i64 (lo : Nat)) rfl rfl (Or.inl ⟨rfl, fun wq hSq => by first | rfl | go_simp⟩) (by decide +kernel) hS ?_
          simp only [Act.put, List.setIfInBounds_toArray, List.set_cons_zero, List.set_cons_succ]
          refine tk 8 (some 43) (.pointer (some ⟨g, lo * 11, none⟩)) rfl rfl (Or.inl ⟨rfl, fun wq hSq => by go_simp⟩) (by decide +kernel) hS ?_
          simp only [Act.put, List.setIfInBounds_toArray, List.set_cons_zero, List.set_cons_succ]
          refine tk 9 (some 44) (.agg (mcp x).toArray) rfl rfl ?_ (by decide +kernel) hS ?_
          · exact yieldsIf_load_mid rfl 83 (.tmp 43) rfl g (lo * 11) rfl (mcp x) _ l1 Try.underlying83 rfl (by rw [info83, mcp_len])
          simp only [Act.put, List.setIfInBounds_toArray, List.set_cons_zero, List.set_cons_succ]
          refine tk 10 (some 45) (.agg (mcp t).toArray) rfl rfl ?_ (by decide +kernel) hS ?_
          · exact yieldsIf_load_mid rfl 83 (.tmp 4) rfl w.heap.size 0 rfl (mcp t) _ l2 Try.underlying83 rfl (by rw [info83, mcp_len])
          simp only [Act.put, List.setIfInBounds_toArray, List.set_cons_zero, List.set_cons_succ]
          refine wpAnyH_ready (rs := [11]) (by decide +kernel) (by simp) ?_
          refine AllReadyH.cons rfl (fun K hK => ?_) AllReadyH.nil
          rw [if_pos (by rfl)]
          go_simp
          refine (hC _).mono ?_
          rintro e Y1 ⟨rfl, f1⟩
          have hS := hS.trans f1
          clear f1
          refine hK.out _ _ hS (fun _ => ?_)
          clear hK K
          try simp only [Act.put, List.setIfInBounds_toArray, List.set_cons_zero, List.set_cons_succ]
          refine tk 12 (some 47) (.bool false) rfl rfl (Or.inl ⟨rfl, fun wq hSq => by go_simp⟩) (by decide +kernel) hS ?_
          simp only [Act.put, List.setIfInBounds_toArray, List.set_cons_zero, List.set_cons_succ]
          refine tk 13 (some 48) (.bool false) rfl rfl (Or.inl ⟨rfl, fun wq hSq => by go_simp⟩) (by decide +kernel) hS ?_
          simp only [Act.put, List.setIfInBounds_toArray, List.set_cons_zero, List.set_cons_succ]
          refine tk 14 (some 6) (.int .i64 (lo : Nat)) rfl rfl (Or.inl ⟨rfl, fun wq hSq => by first | rfl | go_simp⟩) (by decide +kernel) hS ?_
          simp only [Act.put, List.setIfInBounds_toArray, List.set_cons_zero, List.set_cons_succ]
          refine tk 15 (some 7) (.bool false) rfl rfl (Or.inl ⟨rfl, fun wq hSq => by first | rfl | go_simp⟩) (by decide +kernel) hS ?_
          simp only [Act.put, List.setIfInBounds_toArray, List.set_cons_zero, List.set_cons_succ]
          refine wpAnyH_done (by decide +kernel) ?_ _
          refine plain_end ?_
          have HF : Hid (Fr [] W Y1) := I.out.1.trans hS
          clear hS l1 l2 hC
          go_wp2
          have hra := HA0.out.symm.trans HA.out
          subst hra
          first | exact bodyPost_ret (results_tmp2 rfl _ _ _) rfl ⟨lo, rfl, HF0.out.trans HF.out⟩ | exact bodyPost_ret (results_tmp2 rfl _ _ _) rfl ⟨⟨lo, rfl⟩, HF0.out.trans HF.out⟩
      · have hlo : ¬ (lo : Int) < L.length := by omega
        have HA : Hid (L.any (fun x => decide (x.1 = t.1)) = false) := by
          show L.any _ = false
          rw [List.any_eq_false]
          intro y hy
          obtain ⟨j, hj, rfl⟩ := List.getElem_of_mem hy
          have := I.out.2.1 j _ (by omega) (List.getElem?_eq_getElem hj)
          simp; omega
        go_upto_region 8 with fail
        refine reg_in (fun w' => Fr [] wr w') ?_
        have hS : Fr [] wr wr.drew := (Fr.refl _ _).drew
        generalize wr.drew = Y at *
        refine tk 0 (some 35) (.int .i64 (lo : Nat)) rfl rfl (Or.inl ⟨rfl, fun wq hSq => by first | rfl | go_simp⟩) (by decide +kernel) hS ?_
        simp only [Act.put, List.setIfInBounds_toArray, List.set_cons_zero, List.set_cons_succ]
        refine tk 1 (some 36) (.int .i64 (lo : Nat)) rfl rfl (Or.inl ⟨rfl, fun wq hSq => by first | rfl | go_simp⟩) (by decide +kernel) hS ?_
        simp only [Act.put, List.setIfInBounds_toArray, List.set_cons_zero, List.set_cons_succ]
        refine tk 2 (some 37) (.int .i64 (L.length : Nat)) rfl rfl (Or.inl ⟨rfl, fun wq hSq => by first | rfl | go_simp⟩) (by decide +kernel) hS ?_
        simp only [Act.put, List.setIfInBounds_toArray, List.set_cons_zero, List.set_cons_succ]
        refine tk 3 (some 38) (.bool false) rfl rfl (Or.inl ⟨rfl, fun wq hSq => by go_simp⟩) (by decide +kernel) hS ?_
        simp only [Act.put, List.setIfInBounds_toArray, List.set_cons_zero, List.set_cons_succ]
        refine tk 4 (some 39) (.bool false) rfl rfl (Or.inl ⟨rfl, fun wq hSq => by go_simp⟩) (by decide +kernel) hS ?_
        simp only [Act.put, List.setIfInBounds_toArray, List.set_cons_zero, List.set_cons_succ]
        refine tk 5 (some 40) (undef) rfl rfl ?_ (by decide +kernel) hS ?_
        · exact Or.inr ⟨rfl, rfl⟩
        simp only [Act.put, List.setIfInBounds_toArray, List.set_cons_zero, List.set_cons_succ]
        refine tk 6 (some 41) (undef) rfl rfl ?_ (by decide +kernel) hS ?_
        · exact Or.inr ⟨rfl, rfl⟩
        simp only [Act.put, List.setIfInBounds_toArray, List.set_cons_zero, List.set_cons_succ]
        refine tk 7 (some 42) (undef) rfl rfl ?_ (by decide +kernel) hS ?_
        · exact Or.inr ⟨rfl, rfl⟩
        simp only [Act.put, List.setIfInBounds_toArray, List.set_cons_zero, List.set_cons_succ]
        refine tk 8 (some 43) (undef) rfl rfl ?_ (by decide +kernel) hS ?_
        · exact Or.inr ⟨rfl, rfl⟩
        simp only [Act.put, List.setIfInBounds_toArray, List.set_cons_zero, List.set_cons_succ]
        refine tk 9 (some 44) (undef) rfl rfl ?_ (by decide +kernel) hS ?_
        · exact Or.inr ⟨rfl, rfl⟩
        simp only [Act.put, List.setIfInBounds_toArray, List.set_cons_zero, List.set_cons_succ]
        refine tk 10 (some 45) (undef) rfl rfl ?_ (by decide +kernel) hS ?_
        · exact Or.inr ⟨rfl, rfl⟩
        simp only [Act.put, List.setIfInBounds_toArray, List.set_cons_zero, List.set_cons_succ]
        refine tk 11 (some 46) (undef) rfl rfl ?_ (by decide +kernel) hS ?_
        · exact Or.inr ⟨rfl, rfl⟩
        simp only [Act.put, List.setIfInBounds_toArray, List.set_cons_zero, List.set_cons_succ]
        refine tk 12 (some 47) (undef) rfl rfl ?_ (by decide +kernel) hS ?_
        · exact Or.inr ⟨rfl, rfl⟩
        simp only [Act.put, List.setIfInBounds_toArray, List.set_cons_zero, List.set_cons_succ]
        refine tk 13 (some 48) (.bool false) rfl rfl (Or.inl ⟨rfl, fun wq hSq => by go_simp⟩) (by decide +kernel) hS ?_
        simp only [Act.put, List.setIfInBounds_toArray, List.set_cons_zero, List.set_cons_succ]
        refine tk 14 (some 6) (.int .i64 (lo : Nat)) rfl rfl (Or.inl ⟨rfl, fun wq hSq => by first | rfl | go_simp⟩) (by decide +kernel) hS ?_
        simp only [Act.put, List.setIfInBounds_toArray, List.set_cons_zero, List.set_cons_succ]
        refine tk 15 (some 7) (.bool false) rfl rfl (Or.inl ⟨rfl, fun wq hSq => by first | rfl | go_simp⟩) (by decide +kernel) hS ?_
        simp only [Act.put, List.setIfInBounds_toArray, List.set_cons_zero, List.set_cons_succ]
        refine wpAnyH_done (by decide +kernel) ?_ _
        refine plain_end ?_
        have HF : Hid (Fr [] W Y) := I.out.1.trans hS
        clear hS
        go_wp2
        have hra := HA0.out.symm.trans HA.out
        subst hra
        first | exact bodyPost_ret (results_tmp2 rfl _ _ _) rfl ⟨lo, rfl, HF0.out.trans HF.out⟩ | exact bodyPost_ret (results_tmp2 rfl _ _ _) rfl ⟨⟨lo, rfl⟩, HF0.out.trans HF.out⟩
end Go.Proofs.Ytnhjplfdfbbihaa
