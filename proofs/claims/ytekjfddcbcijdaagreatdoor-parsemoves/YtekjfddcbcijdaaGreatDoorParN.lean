/-
  What the parser's calls do that read expressions; conditions: the parser lies as told.
-/
import Derived.Test.YtekjfddcbcijdaaGreatDoorParL
namespace Go.Proofs.YtekjfddcbcijdaaGreatDoor
open Go.RowKit Go.Shelf
set_option linter.unusedVariables false
set_option linter.unusedSimpArgs false

set_option maxRecDepth 100000 in
set_option maxHeartbeats 4000000 in
theorem c_back {ts : List Tok} {B pb : Nat} (hT : Toks ts) {f i : Nat} {ns : List PN} {w : World} {F : List Nat} {r : Except Nat (List Nat × Nat × List PN)} (H : Hyp ts B pb f) (h0 : PS ts B pb F i ns w) (T0 : Tabs w) (hn : ns.length ≤ 2 * i + 1) (hP : P ts (f + 1) .back i ns = some r) : Ctr ts B pb F w r .back := by
  have hi := h0.ti
  have HTL : Hid (ts.length ≤ 200001) := h0.tl
  simp only [P] at hP
  simp only [Ctr, ptr]
  obtain ⟨x0, x1, x2, bd, bs, bf, hbk, _, _, hmf⟩ := h0.maps
  obtain ⟨_, _, _, _, _, c5, _⟩ := pt_cells hbk
  clear hbk
  rcases bindR_some hP with ⟨er, hr, he⟩ | ⟨v1, j1, n1, hr, hP1⟩
  · subst he
    have C1 := H f .first _ _ w _ _ (Nat.le_refl _) h0 T0 trivial hn hr bf hmf
    simp only [ptr] at C1
    go_enter Tryz.func90, Tryz.ntmps90
    go_wp2_with fail
    refine C1.mono ?_
    rintro e w1 ⟨rfl, f1⟩
    exact ⟨rfl, rfl, f1⟩
  · obtain ⟨oa, ob, oc, od, oe⟩ := run_ok hT (nt := .first) (ns := ns) h0.ti trivial hr
    simp only [consN, slack] at oa od
    obtain ⟨m1, rfl, hm1⟩ := oe rfl
    have C1 := H f .first _ _ w _ _ (Nat.le_refl _) h0 T0 trivial hn hr bf hmf
    simp only [ptr] at C1
    have HP : Hid (P ts f (.backL m1) j1 n1 = some r) := hP1
    have hb1 : Hid (n1.length ≤ 2 * j1 + 1 ∧ i < j1 ∧ m1 < n1.length) := by unfold Hid; omega
    clear hP hr oa ob oc od oe hP1 hn hm1
    go_enter Tryz.func90, Tryz.ntmps90
    go_wp2_with fail
    refine C1.mono ?_
    rintro e w1 ⟨he, F1, h1, t1⟩
    obtain rfl : e = .returned (.int .i64 (m1 : Nat)) := he
    have T1 := h0.tabs T0 t1.f
    clear C1 c5 hmf
    go_wp2
    go_loopw [3] (fun nv wr => ∃ g n i' ns' F', g ≤ f ∧ nv = .int .i64 (n : Nat) ∧ PS ts B pb F' i' ns' wr ∧ Tabs wr ∧ Tr F w F' wr ∧ Hid (ns'.length ≤ 2 * i' + 1 ∧ i < i' ∧ n < ns'.length) ∧ Hid (P ts g (.backL n) i' ns' = some r)) (fun _ wr => ts.length - posOf pb wr)
    case atStart => exact ⟨f, m1, j1, n1, F1, Nat.le_refl _, rfl, h1, T1, t1, hb1, HP⟩
    case round =>
      obtain ⟨g, n, p, ms, F2, hg, rfl, hps, hTb, htr, hbd, hPP⟩ := hrel
      clear h1 T1 t1 HP hb1
      have HG : Hid (g ≤ f) := hg
      have hpi := hps.ti
      have HPI : Hid (p < ts.length ∧ posOf pb wr = p) := ⟨hpi, hps.pos⟩
      clear hg
      cases g with
      | zero => exact absurd hPP.out (by simp [P])
      | succ g =>
        have hP := hPP.out
        clear hPP
        simp only [P] at hP
        have C2 := next_any hps
        by_cases e1 : nx ts p = [46]
        · rw [if_pos e1] at hP
          have HNE : Hid (nx ts p ≠ []) := by unfold Hid; rw [e1]; decide
          rw [e1] at C2
          clear e1
          go_wp2_with fail
          refine C2.mono ?_
          rintro e w2 ⟨rfl, f2⟩
          have h2 := hps.fr f2 (by simp)
          have T2 := hTb.fr f2 (by simp)
          have t2 := htr.trans (Tr.of0 f2)
          clear C2
          rcases bindR_some hP with ⟨er, hr, he⟩ | ⟨v3, j3, n3, hr, hP3⟩
          · subst he
            have C3 := H g (.field n) _ _ w2 _ _ (by have := HG.out; omega) h2 T2 HNE.out (by have := hbd.out; omega) hr
            simp only [Ctr, ptr] at C3
            go_wp2_with fail
            refine C3.mono ?_
            rintro e w3 ⟨rfl, f3⟩
            exact ⟨rfl, rfl, t2.ends f3⟩
          · obtain ⟨oa, ob, oc, od, oe⟩ := run_ok hT (nt := .field n) (ns := ms) h2.ti HNE.out hr
            simp only [consN, slack] at oa od
            obtain ⟨m3, rfl, hm3⟩ := oe rfl
            have C3 := H g (.field n) _ _ w2 _ _ (by have := HG.out; omega) h2 T2 HNE.out (by have := hbd.out; omega) hr
            simp only [Ctr, ptr] at C3
            have HP3 : Hid (P ts g (.backL m3) j3 n3 = some r) := hP3
            have hb3 : Hid (n3.length ≤ 2 * j3 + 1 ∧ i < j3 ∧ m3 < n3.length ∧ p < j3 ∧ j3 < ts.length) := by have := hbd.out; unfold Hid; omega
            clear hP hr oa ob oc od oe hP3 hm3
            go_wp2_with fail
            refine C3.mono ?_
            rintro e w3 ⟨he, F3, h3, s3⟩
            obtain rfl : e = .returned (.int .i64 (m3 : Nat)) := he
            have t3 := t2.trans s3
            have T3 := h2.tabs T2 s3.f
            have HM3 : Hid (posOf pb w3 = j3) := h3.pos
            clear C3 h2 T2 t2 s3 f2
            go_wp2
            go_roundw
            case rel => exact ⟨g, m3, j3, n3, F3, by have := HG.out; omega, rfl, h3, T3, t3, by have := hb3.out; unfold Hid; omega, HP3⟩
            case measure =>
              have e1 := hb3.out
              have e2 := HPI.out
              have e3 := HM3.out
              omega
        · rw [if_neg e1] at hP
          by_cases e2 : nx ts p = [91]
          · rw [if_pos e2] at hP
            have HNE : Hid (nx ts p ≠ []) := by unfold Hid; rw [e2]; decide
            rw [e2] at C2
            clear e1 e2
            go_wp2_with fail
            refine C2.mono ?_
            rintro e w2 ⟨rfl, f2⟩
            have h2 := hps.fr f2 (by simp)
            have T2 := hTb.fr f2 (by simp)
            have t2 := htr.trans (Tr.of0 f2)
            clear C2
            rcases bindR_some hP with ⟨er, hr, he⟩ | ⟨v3, j3, n3, hr, hP3⟩
            · subst he
              have C3 := H g (.elem n) _ _ w2 _ _ (by have := HG.out; omega) h2 T2 HNE.out (by have := hbd.out; omega) hr
              simp only [Ctr, ptr] at C3
              go_wp2_with fail
              refine C3.mono ?_
              rintro e w3 ⟨rfl, f3⟩
              exact ⟨rfl, rfl, t2.ends f3⟩
            · obtain ⟨oa, ob, oc, od, oe⟩ := run_ok hT (nt := .elem n) (ns := ms) h2.ti HNE.out hr
              simp only [consN, slack] at oa od
              obtain ⟨m3, rfl, hm3⟩ := oe rfl
              have C3 := H g (.elem n) _ _ w2 _ _ (by have := HG.out; omega) h2 T2 HNE.out (by have := hbd.out; omega) hr
              simp only [Ctr, ptr] at C3
              have HP3 : Hid (P ts g (.backL m3) j3 n3 = some r) := hP3
              have hb3 : Hid (n3.length ≤ 2 * j3 + 1 ∧ i < j3 ∧ m3 < n3.length ∧ p < j3 ∧ j3 < ts.length) := by have := hbd.out; unfold Hid; omega
              clear hP hr oa ob oc od oe hP3 hm3
              go_wp2_with fail
              refine C3.mono ?_
              rintro e w3 ⟨he, F3, h3, s3⟩
              obtain rfl : e = .returned (.int .i64 (m3 : Nat)) := he
              have t3 := t2.trans s3
              have T3 := h2.tabs T2 s3.f
              have HM3 : Hid (posOf pb w3 = j3) := h3.pos
              clear C3 h2 T2 t2 s3 f2
              go_wp2
              go_roundw
              case rel => exact ⟨g, m3, j3, n3, F3, by have := HG.out; omega, rfl, h3, T3, t3, by have := hb3.out; unfold Hid; omega, HP3⟩
              case measure =>
                have e1 := hb3.out
                have e2 := HPI.out
                have e3 := HM3.out
                omega
          · rw [if_neg e2] at hP
            cases hP
            have b1 : (nx ts p == [46]) = false := by simpa using e1
            have b2 : (nx ts p == [91]) = false := by simpa using e2
            clear e1 e2
            generalize nx ts p = X at *
            go_wp2_with fail
            refine C2.mono ?_
            rintro e w2 ⟨rfl, f2⟩
            have h2 := hps.fr f2 (by simp)
            have t2 := htr.trans (Tr.of0 f2)
            clear C2
            go_wp2
            go_ret
            exact ⟨rfl, F2, h2, t2⟩

set_option maxRecDepth 100000 in
set_option maxHeartbeats 4000000 in
theorem c_chain {ts : List Tok} {B pb : Nat} (hT : Toks ts) {f i line : Nat} {ns : List PN} {w : World} {F : List Nat} {r : Except Nat (List Nat × Nat × List PN)} (H : Hyp ts B pb f) (h0 : PS ts B pb F i ns w) (T0 : Tabs w) (hp : preN ts i ns (.chain line)) (hn : ns.length ≤ 2 * i + 1) (hP : P ts (f + 1) (.chain line) i ns = some r) : Ctr ts B pb F w r (.chain line) := by
  have hi := h0.ti
  have hl : 0 < line ∧ line ≤ 7 := hp
  have HTL : Hid (ts.length ≤ 200001) := h0.tl
  simp only [P] at hP
  simp only [Ctr, ptr]
  by_cases e7 : line = 7
  · subst e7
    rw [if_pos rfl] at hP
    have C1 := H f .signed _ _ w _ _ (Nat.le_refl _) h0 T0 trivial hn hP
    simp only [Ctr, ptr] at C1
    rcases r with er | ⟨v1, j1, n1⟩
    · go_enter Tryz.func72, Tryz.ntmps72
      go_wp2_with fail
      refine C1.mono ?_
      rintro e w1 ⟨rfl, f1⟩
      exact ⟨rfl, rfl, f1⟩
    · go_enter Tryz.func72, Tryz.ntmps72
      go_wp2_with fail
      refine C1.mono ?_
      rintro e w1 ⟨rfl, F1, h1, t1⟩
      go_wp2
      go_ret
      exact ⟨rfl, F1, h1, t1⟩
  · rw [if_neg e7] at hP
    have HL : Hid (0 < line ∧ line ≤ 6) := by unfold Hid; omega
    have hlI : (line : Int) ≤ 6 := by omega
    have b7 : ((line : Int) == 7) = false := beq_int_false (by omega)
    have hpc : preN ts i ns (.chain (line + 1)) := by show 0 < line + 1 ∧ line + 1 ≤ 7; omega
    have ec : ((line + 1 : Nat) : Int) = (line : Int) + 1 := by omega
    clear hl hp e7
    rcases bindR_some hP with ⟨er, hr, he⟩ | ⟨v1, j1, n1, hr, hP1⟩
    · subst he
      have C1 := H f (.chain (line + 1)) _ _ w _ _ (Nat.le_refl _) h0 T0 hpc hn hr
      simp only [Ctr, ptr] at C1
      rw [ec] at C1
      clear ec
      go_enter Tryz.func72, Tryz.ntmps72
      go_wp2_with fail
      refine C1.mono ?_
      rintro e w1 ⟨rfl, f1⟩
      exact ⟨rfl, rfl, f1⟩
    · obtain ⟨oa, ob, oc, od, oe⟩ := run_ok hT (nt := .chain (line + 1)) (ns := ns) h0.ti hpc hr
      simp only [consN, slack] at oa od
      obtain ⟨m1, rfl, hm1⟩ := oe rfl
      have C1 := H f (.chain (line + 1)) _ _ w _ _ (Nat.le_refl _) h0 T0 hpc hn hr
      simp only [Ctr, ptr] at C1
      rw [ec] at C1
      have HEC : Hid (((line + 1 : Nat) : Int) = (line : Int) + 1) := ec
      have HP : Hid (P ts f (.chainL line m1) j1 n1 = some r) := hP1
      have hb1 : Hid (n1.length ≤ 2 * j1 + 1 ∧ i < j1 ∧ m1 < n1.length) := by unfold Hid; omega
      clear hP hr oa ob oc od oe hP1 hn hm1 ec
      go_enter Tryz.func72, Tryz.ntmps72
      go_wp2_with fail
      refine C1.mono ?_
      rintro e w1 ⟨he, F1, h1, t1⟩
      obtain rfl : e = .returned (.int .i64 (m1 : Nat)) := he
      have T1 := h0.tabs T0 t1.f
      clear C1
      go_wp2
      go_loopw [5] (fun nv wr => ∃ g n i' ns' F', g ≤ f ∧ nv = .int .i64 (n : Nat) ∧ PS ts B pb F' i' ns' wr ∧ Tabs wr ∧ Tr F w F' wr ∧ Hid (ns'.length ≤ 2 * i' + 1 ∧ i < i' ∧ n < ns'.length) ∧ Hid (P ts g (.chainL line n) i' ns' = some r)) (fun _ wr => ts.length - posOf pb wr)
      case atStart => exact ⟨f, m1, j1, n1, F1, Nat.le_refl _, rfl, h1, T1, t1, hb1, HP⟩
      case round =>
        obtain ⟨g, n, p, ms, F2, hg, rfl, hps, hTb, htr, hbd, hPP⟩ := hrel
        clear h1 T1 t1 HP hb1
        have HG : Hid (g ≤ f) := hg
        have hpi := hps.ti
        have HPI : Hid (p < ts.length ∧ posOf pb wr = p) := ⟨hpi, hps.pos⟩
        clear hg
        cases g with
        | zero => exact absurd hPP.out (by simp [P])
        | succ g =>
          have hP := hPP.out
          clear hPP
          simp only [P] at hP
          have C2 := next_any hps
          by_cases e1 : lineL (nx ts p) = line
          · rw [if_pos e1] at hP
            have HNE : Hid (preN ts p ms (.joined n (line + 1))) := ⟨fun e => by rw [e, lineL_nil] at e1; have := HL.out; omega, by omega, by have := HL.out; omega⟩
            have CO := fun w => lineOf_any (nx ts p) w
            rw [e1] at CO
            generalize nx ts p = X at C2 CO
            clear e1
            go_wp2_with fail
            refine C2.mono ?_
            rintro e w2 ⟨rfl, f2⟩
            have h2 := hps.fr f2 (by simp)
            have T2 := hTb.fr f2 (by simp)
            have t2 := htr.trans (Tr.of0 f2)
            clear C2
            go_wp2_with fail
            refine (CO w2).mono ?_
            rintro e w2 ⟨rfl, rfl⟩
            clear CO
            rcases bindR_some hP with ⟨er, hr, he⟩ | ⟨v3, j3, n3, hr, hP3⟩
            · subst he
              have C3 := H g (.joined n (line + 1)) _ _ w2 _ _ (by have := HG.out; omega) h2 T2 HNE.out (by have := hbd.out; omega) hr
              simp only [Ctr, ptr] at C3
              rw [HEC.out] at C3
              go_wp2_with fail
              refine C3.mono ?_
              rintro e w3 ⟨rfl, f3⟩
              exact ⟨rfl, rfl, t2.ends f3⟩
            · obtain ⟨oa, ob, oc, od, oe⟩ := run_ok hT (nt := .joined n (line + 1)) (ns := ms) h2.ti HNE.out hr
              simp only [consN, slack] at oa od
              obtain ⟨m3, rfl, hm3⟩ := oe rfl
              have C3 := H g (.joined n (line + 1)) _ _ w2 _ _ (by have := HG.out; omega) h2 T2 HNE.out (by have := hbd.out; omega) hr
              simp only [Ctr, ptr] at C3
              rw [HEC.out] at C3
              have HP3 : Hid (P ts g (.chainL line m3) j3 n3 = some r) := hP3
              have hb3 : Hid (n3.length ≤ 2 * j3 + 1 ∧ i < j3 ∧ m3 < n3.length ∧ p < j3 ∧ j3 < ts.length) := by have := hbd.out; unfold Hid; omega
              clear hP hr oa ob oc od oe hP3 hm3
              go_wp2_with fail
              refine C3.mono ?_
              rintro e w3 ⟨he, F3, h3, s3⟩
              obtain rfl : e = .returned (.int .i64 (m3 : Nat)) := he
              have t3 := t2.trans s3
              have T3 := h2.tabs T2 s3.f
              have HM3 : Hid (posOf pb w3 = j3) := h3.pos
              clear C3 h2 T2 t2 s3 f2
              go_wp2
              go_roundw
              case rel => exact ⟨g, m3, j3, n3, F3, by have := HG.out; omega, rfl, h3, T3, t3, by have := hb3.out; unfold Hid; omega, HP3⟩
              case measure =>
                have e1 := hb3.out
                have e2 := HPI.out
                have e3 := HM3.out
                omega
          · rw [if_neg e1] at hP
            cases hP
            have CO := fun w => lineOf_any (nx ts p) w
            have b1 : ((lineL (nx ts p) : Int) == (line : Int)) = false := beq_int_false (by omega)
            have b2 : (lineL (nx ts p) == line) = false := by simpa using e1
            generalize lineL (nx ts p) = Y at *
            generalize nx ts p = X at *
            clear e1
            go_wp2_with fail
            refine C2.mono ?_
            rintro e w2 ⟨rfl, f2⟩
            have h2 := hps.fr f2 (by simp)
            have t2 := htr.trans (Tr.of0 f2)
            clear C2
            go_wp2_with fail
            refine (CO w2).mono ?_
            rintro e w2 ⟨rfl, rfl⟩
            go_wp2
            go_ret
            exact ⟨rfl, F2, h2, t2⟩
end Go.Proofs.YtekjfddcbcijdaaGreatDoor
