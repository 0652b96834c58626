/-
  ParseBinds, walked; condition: the tables lie as told.
-/
import Derived.Test.YtodhagbeaobphaaGreatDoorBinQ
namespace Go.Proofs.YtodhagbeaobphaaGreatDoor
open Go.RowKit
set_option linter.unusedVariables false
set_option linter.unusedSimpArgs false

theorem binL_size {a : ByteArray} (h : binL a = true) : a.size ≤ 2 := by
  unfold binL at h
  rw [List.contains_iff_mem] at h
  have e : a.size = a.data.toList.length := Lib.size_eq a
  rw [e]
  have : ∀ l ∈ binaries, l.length ≤ 2 := by decide
  exact this _ h
theorem pairB (a b : ByteArray) : ((⟨#[102, 110, 32, 102, 40, 41, 32, 123, 32, 114, 101, 116, 117, 114, 110, 32, 49, 32]⟩ : ByteArray) ++ a ++ ⟨#[32, 50, 32]⟩ ++ b ++ ⟨#[32, 51, 59, 32, 125]⟩) = ⟨(pairT a.data.toList b.data.toList).toArray⟩ := by
  apply ByteArray.ext
  apply Array.ext'
  simp [pairT, ByteArray.data_append]
theorem prgL_len {s : ByteArray} {ms : List PN} (h : prgL s = .ok ms) : ms.length ≤ 50000 := by
  unfold prgL at h
  split at h
  · cases h
  · split at h
    · cases h
    · split at h
      · cases h
      · split at h
        · cases h
        · split at h
          · cases h
          · cases h; omega
theorem pair_ok {a b : ByteArray} (ha : binL a = true) (hb : binL b = true) : pairOk a.data.toList b.data.toList = true := by
  unfold binL at ha hb
  rw [List.contains_iff_mem] at ha hb
  have h := pairs_ok
  rw [List.all_eq_true] at h
  have h2 := h _ ha
  rw [List.all_eq_true] at h2
  exact h2 _ hb

set_option maxRecDepth 100000 in
set_option maxHeartbeats 1000000 in
theorem binds_walk (a b : ByteArray) (w : World) (T : Tabs w) : Calls Tryz.prog 6 #[.string a, .string b] w fun e w' => e = .returned (.bool true) ∧ Fr [] w w' := by
  have CA := awake_any w T
  go_enter Tryz.func6, Tryz.ntmps6
  go_wp2_with (go_at_call 8; refine CA.mono ?_)
  rintro e w1 ⟨rfl, f1⟩
  have CO := Operator_any a w1
  cases ha : binL a with
  | false =>
    rw [ha] at CO
    go_wp2_with (go_at_call 14; refine CO.mono ?_)
    rintro e w2 ⟨rfl, f2⟩
    go_wp2
    go_ret
    exact ⟨rfl, f1.trans f2⟩
  | true =>
    rw [ha] at CO
    go_wp2_with (go_at_call 14; refine CO.mono ?_)
    rintro e w2 ⟨rfl, f2⟩
    have CP := Operator_any b w2
    cases hb : binL b with
    | false =>
      rw [hb] at CP
      go_wp2_with (go_at_call 14; refine CP.mono ?_)
      rintro e w3 ⟨rfl, f3⟩
      go_wp2
      go_ret
      exact ⟨rfl, (f1.trans f2).trans f3⟩
    | true =>
      rw [hb] at CP
      go_wp2_with (go_at_call 14; refine CP.mono ?_)
      rintro e w3 ⟨rfl, f3⟩
      have T3 : Tabs w3 := ((T.fr f1 (by simp)).fr f2 (by simp)).fr f3 (by simp)
      have f03 : Fr [] w w3 := (f1.trans f2).trans f3
      have HK : Hid (pairOk a.data.toList b.data.toList = true) := pair_ok ha hb
      have sa := binL_size ha
      have sb := binL_size hb
      have n1 : ¬ 9223372036854775807 < 18 + a.size := by omega
      have n2 : ¬ 9223372036854775807 < 18 + a.size + 3 := by omega
      have n3 : ¬ 9223372036854775807 < 18 + a.size + 3 + b.size := by omega
      have n4 : ¬ 9223372036854775807 < 18 + a.size + 3 + b.size + 5 := by omega
      have hsz : (⟨(pairT a.data.toList b.data.toList).toArray⟩ : ByteArray).size ≤ 200000 := by
        rw [← pairB]; simp only [ByteArray.size_append]; have : (⟨#[102, 110, 32, 102, 40, 41, 32, 123, 32, 114, 101, 116, 117, 114, 110, 32, 49, 32]⟩ : ByteArray).size = 18 := rfl; have : (⟨#[32, 50, 32]⟩ : ByteArray).size = 3 := rfl; have : (⟨#[32, 51, 59, 32, 125]⟩ : ByteArray).size = 5 := rfl; omega
      have CQ := prog_any _ w3 hsz T3
      rw [← pairB] at CQ
      unfold PrgOut at CQ
      rw [pairB] at CQ
      have CLa : ∀ W, Calls Tryz.prog 15 #[.string a] W fun e w' => e = .returned (.int .i64 (levN a.data.toList : Nat)) ∧ w' = W := fun W => Level_any a.data.toList W
      have CLb : ∀ W, Calls Tryz.prog 15 #[.string b] W fun e w' => e = .returned (.int .i64 (levN b.data.toList : Nat)) ∧ w' = W := fun W => Level_any b.data.toList W
      unfold pairOk at HK
      clear CA CO CP ha hb sa sb hsz f1 f2 f3 T
      generalize levN a.data.toList = P at *
      generalize levN b.data.toList = Q at *
      rcases hp : prgL ⟨(pairT a.data.toList b.data.toList).toArray⟩ with ⟨p, c⟩ | ms
      · rw [hp] at CQ HK
        simp only [decide_eq_true_eq] at CQ HK
        obtain ⟨rfl, rfl, rfl⟩ := HK.out
        rw [← pairB] at CQ
        clear HK hp
        go_wp2_with (go_at_call 9; refine CQ.mono ?_)
        rintro e w4 ⟨rfl, f4⟩
        clear CQ
        have CLa' := CLa w4
        have CLb' := CLb w4
        clear CLa CLb
        go_wp2_with (go_at_call 15; refine CLa'.mono ?_)
        rintro e w5 ⟨rfl, rfl⟩
        clear CLa'
        go_wp2_with (go_at_call 15; refine CLb'.mono ?_)
        rintro e w6 ⟨rfl, rfl⟩
        go_wp2
        go_ret
        exact ⟨rfl, f03.trans f4⟩
      · rw [hp] at CQ HK
        simp only at CQ
        rw [← pairB] at CQ
        have HK2 : Hid (¬ (P = 0 ∧ Q = 0) ∧ 5 ≤ ms.length ∧ ∃ n, lastJ ms ms.length = some n ∧ (nodeAt ms n).text = (if P < Q then a.data.toList else b.data.toList) ∧ (nodeAt ms n).kids.length = 2 ∧ (decide ((nodeAt ms (hd (nodeAt ms n).kids)).kind = 19) = decide (Q ≤ P)) ∧ hd (nodeAt ms n).kids < ms.length) := by
          have h := HK.out
          simp only [Bool.and_eq_true, Bool.not_eq_true', decide_eq_false_iff_not, decide_eq_true_eq] at h
          obtain ⟨⟨h1, h2⟩, h3⟩ := h
          refine ⟨h1, h2, ?_⟩
          cases hl : lastJ ms ms.length with
          | none => rw [hl] at h3; cases h3
          | some n =>
            rw [hl] at h3
            simp only [Bool.and_eq_true, decide_eq_true_eq, beq_iff_eq] at h3
            exact ⟨n, rfl, h3.1.1.1, h3.1.1.2, h3.1.2, h3.2⟩
        have Hms : Hid (ms.length ≤ 50000) := prgL_len hp
        clear HK hp
        go_wp2_with (go_at_call 9; refine CQ.mono ?_)
        rintro e w4 ⟨⟨nv, L, F', rfl, hL, hown, hob, hkr, hF⟩, f4⟩
        obtain ⟨ad, cp, rfl, -⟩ := own_slice hown
        have NA := nodes_at hown hkr (fun j hj => (hF j hj).2)
        have hlL : L.length = ms.length := by rw [← hL]; simp
        have h5 : ¬ (L.length : Int) < 5 := by have := HK2.out.2.1; omega
        have HLm : Hid (L.map MN.x = ms) := hL
        have HLl : Hid (L.length = ms.length) := hlL
        have f04 := f03.trans f4
        clear CQ hown hob hkr hF hL hlL f03 f4
        have CLa' := CLa w4
        have CLb' := CLb w4
        clear CLa CLb
        go_wp2_with (go_at_call 15; refine CLa'.mono ?_)
        rintro e w5 ⟨rfl, rfl⟩
        clear CLa'
        go_wp2_with (go_at_call 15; refine CLb'.mono ?_)
        rintro e w6 ⟨rfl, rfl⟩
        clear CLb'
        have key : (P : Int) = 0 ∧ ¬ (Q : Int) = 0 ∧ (P : Int) < (Q : Int) ∨ ¬ (P : Int) = 0 ∧ (P : Int) < (Q : Int) ∨ ¬ (P : Int) = 0 ∧ (Q : Int) ≤ (P : Int) := by have := HK2.out.1; omega
        have hll : L.length ≤ 50000 := by have := HLl.out; have := Hms.out; omega
        rcases key with ⟨k1, k2, k3⟩ | ⟨k1, k3⟩ | ⟨k1, k3⟩
        all_goals
          go_wp2
          go_loop [11] (fun i => ∃ (j : Int) (k : Nat), i = .int .i64 j ∧ k ≤ L.length ∧ Hid (j + 1 = k) ∧ Hid (lastJ ms k = lastJ ms ms.length)) (fun i => (intOf i + 1).toNat)
          case atStart => exact ⟨(L.length : Int) - 1, L.length, by go_num, Nat.le_refl _, by unfold Hid; omega, by unfold Hid; rw [HLl.out]⟩
          case round =>
            obtain ⟨j, k, rfl, hk, HJ, HE⟩ := hrel
            obtain ⟨-, -, n, hn, ht, hk2, hk0, hkl⟩ := HK2.out
            cases k with
            | zero =>
              have := HE.out
              rw [hn] at this
              cases this
            | succ q =>
              have hj : j = (q : Int) := by have := HJ.out; omega
              subst hj
              have hq : L[q]? = some (L[q]'(by omega)) := List.getElem?_eq_getElem _
              generalize L[q]'(by omega) = m at hq
              have hmq : ms[q]? = some m.x := by rw [← HLm.out, List.getElem?_map, hq]; rfl
              obtain ⟨g, o, rfl, hg, hN⟩ := NA q (ndM m) (by rw [List.getElem?_map, hq]; rfl)
              have c0 := hN.c0
              have c1 := hN.c1
              have c2 := hN.c2
              have hq1 : (q : Int) < (L.length : Int) := by omega
              simp only [ndM, List.length_map] at c0 c1 c2
              by_cases h19 : m.x.kind = 19
              · have hnq : n = q := by
                  have e := HE.out
                  rw [hn] at e
                  simp only [lastJ] at e
                  rw [if_pos (by unfold kdN; rw [hmq]; exact h19)] at e
                  exact (Option.some.inj e).symm
                subst hnq
                have hnx : nodeAt ms n = m.x := by unfold nodeAt; rw [List.getD_eq_getElem?_getD, hmq]; rfl
                rw [hnx] at ht hk2 hk0 hkl
                rw [h19] at c0
                rw [hk2] at c2
                have hkz : m.x.kids[0]? = some (hd m.x.kids) := by
                  unfold hd
                  rw [List.getD_eq_getElem?_getD, List.getElem?_eq_getElem (by omega)]
                  rfl
                obtain ⟨kb, ko, hka, hkb, hkc⟩ := hN.k 0 (hd m.x.kids : Nat) (by simp [ndM, hkz])
                simp only [ndM] at hka
                rw [hka] at c2
                simp only [Nat.add_zero] at hkc
                have hkq : L[hd m.x.kids]? = some (L[hd m.x.kids]'(by rw [HLl.out]; exact hkl)) := List.getElem?_eq_getElem _
                generalize L[hd m.x.kids]'(by rw [HLl.out]; exact hkl) = m0 at hkq
                have hm0 : nodeAt ms (hd m.x.kids) = m0.x := by unfold nodeAt; rw [List.getD_eq_getElem?_getD, ← HLm.out, List.getElem?_map, hkq]; rfl
                rw [hm0] at hk0
                obtain ⟨g', o', he', hg', hN'⟩ := NA (hd m.x.kids) (ndM m0) (by rw [List.getElem?_map, hkq]; rfl)
                cases he'
                have d0 := hN'.c0
                simp only [ndM] at d0
                have hkl' : ((hd m.x.kids : Nat) : Int) < (L.length : Int) := by have := HLl.out; omega
                have htx : (⟨m.x.text.toArray⟩ : ByteArray) = ⟨(if P < Q then a.data.toList else b.data.toList).toArray⟩ := by rw [ht]
                rw [htx] at c1
                first
                  | rw [if_pos (show P < Q by omega)] at c1
                  | rw [if_neg (show ¬ P < Q by omega)] at c1
                simp only [Array.toArray_toList] at c1
                have HKK : Hid (decide (m0.x.kind = 19) = decide (Q ≤ P)) := hk0
                generalize hd m.x.kids = z at *
                clear hn ht hk2 hk0 hN hN' hmq hnx hkz hkq hm0 htx hq HE HJ NA
                go_wp2
                go_ret
                have e19 : ((m0.x.kind : Int) == 19) = decide (Q ≤ P) := by
                  rw [← HKK.out, Bool.eq_iff_iff]
                  simp
                  omega
                refine ⟨?_, f04⟩
                show Ending.returned (Value.bool _) = Ending.returned (Value.bool true)
                rw [e19]
                first
                  | (simp; done)
                  | (simp; omega)
                  | (rw [show P = 0 by omega]; simp; done)
                  | (rw [show P = 0 by omega]; simp; omega)
              · have hkq : ((m.x.kind : Int) == 19) = false := beq_int_false (by omega)
                have HE2 : Hid (lastJ ms q = lastJ ms ms.length) := by unfold Hid; rw [← HE.out]; simp only [lastJ]; rw [if_neg]; unfold kdN; rw [hmq]; exact h19
                clear hn ht hk2 hk0 hkl hN c1 c2 hq hmq
                go_wp2
                go_round
                case rel => exact ⟨(q : Int) - 1, q, by go_num, by omega, by unfold Hid; omega, HE2⟩
                case measure => first | (simp [intOf]; done) | (simp [intOf]; omega)
end Go.Proofs.YtodhagbeaobphaaGreatDoor
