/-
  What reads things with commas between; conditions: the parser lies as told.
-/
import Derived.Test.YtekjfddcbcijdaaGreatDoorParQ
namespace Go.Proofs.YtekjfddcbcijdaaGreatDoor
open Go.RowKit Go.Shelf
set_option linter.unusedVariables false
set_option linter.unusedSimpArgs false

def thN (thing : Bool) : NT := if thing then .expr else .name
theorem thN_pre (ts : List Tok) (i : Nat) (ns : List PN) (thing : Bool) : preN ts i ns (thN thing) := by cases thing <;> trivial
theorem thN_single (thing : Bool) : single (thN thing) = true ∧ consN (thN thing) = 1 ∧ slack (thN thing) = 0 := by cases thing <;> decide
theorem listedL_len {ts : List Tok} (hT : Toks ts) (thing : Bool) (c : List UInt8) (hc : c ≠ []) : ∀ (g : Nat) (acc : List Nat) (i : Nat) (ns : List PN) (v : List Nat) (j : Nat) (ms : List PN), i < ts.length → P ts g (.listedL thing c acc) i ns = some (.ok (v, j, ms)) → v.length ≤ acc.length + (j - i) := by
  intro g
  induction g with
  | zero => intro acc i ns v j ms _ h; simp [P] at h
  | succ g ih =>
    intro acc i ns v j ms hi h
    have hj := run_ok hT (nt := .listedL thing c acc) hi hc h
    simp only [P] at h
    split at h
    · rename_i e
      have h1 := hT.more hi (by rw [e]; decide)
      rcases bindR_some h with ⟨er, hr, he⟩ | ⟨v1, j1, n1, hr, hP⟩
      · cases he
      · have hr' : P ts g (thN thing) (i + 1) ns = some (.ok (v1, j1, n1)) := hr
        obtain ⟨a1, a2, _⟩ := run_ok hT h1 (thN_pre ts _ ns thing) hr'
        have := ih _ _ _ _ _ _ a2 hP
        have hk := run_ok hT (nt := .listedL thing c (acc ++ [hd v1])) a2 hc hP
        have h3 := (thN_single thing).2.1
        simp only [consN, List.length_append, List.length_cons, List.length_nil] at this hk
        omega
    · unfold wantR at h
      split at h
      · cases h
        omega
      · cases h
theorem listed_len {ts : List Tok} (hT : Toks ts) (thing : Bool) (c : List UInt8) (hc : c ≠ []) {g i : Nat} {ns : List PN} {v : List Nat} {j : Nat} {ms : List PN} (hi : i < ts.length) (h : P ts g (.listed thing c) i ns = some (.ok (v, j, ms))) : v.length ≤ j := by
  cases g with
  | zero => simp [P] at h
  | succ g =>
    simp only [P] at h
    split at h
    · cases h
      simp
    · rcases bindR_some h with ⟨er, hr, he⟩ | ⟨v1, j1, n1, hr, hP⟩
      · cases he
      · have hr' : P ts g (thN thing) i ns = some (.ok (v1, j1, n1)) := hr
        obtain ⟨a1, a2, _⟩ := run_ok hT hi (thN_pre ts _ ns thing) hr'
        have := listedL_len hT thing c hc _ _ _ _ _ _ _ a2 hP
        have hk := run_ok hT (nt := .listedL thing c [hd v1]) a2 hc hP
        have h3 := (thN_single thing).2.1
        simp only [consN, List.length_cons, List.length_nil] at this hk
        omega

set_option maxRecDepth 100000 in
set_option maxHeartbeats 4000000 in
theorem c_listed_false {ts : List Tok} {B pb : Nat} (hT : Toks ts) {f i : Nat} {closing : List UInt8} {ns : List PN} {w : World} {F : List Nat} {r : Except Nat (List Nat × Nat × List PN)} (H : Hyp ts B pb f) (h0 : PS ts B pb F i ns w) (T0 : Tabs w) (hc : closing ≠ []) (hn : ns.length ≤ 2 * i + 1) (hP : P ts (f + 1) (.listed false closing) i ns = some r) : Ctr ts B pb F w r (.listed false closing) := by
  obtain ⟨i3, hi3, hz, hz1, hby⟩ := info_parts info3
  have hi := h0.ti
  have HTL : Hid (ts.length ≤ 200001) := h0.tl
  have HC : Hid (closing ≠ []) := hc
  have HBW : Hid (B ≤ w.heap.size) := by have := h0.fb pb h0.pf; unfold Hid; omega
  have eg : ∀ args w, (callFunc 55 args).run Tryz.prog w = .ok (.enter 55 args) w := enters_of Tryz.func55 (by kernel_rfl) rfl
  simp only [P, if_true, Bool.false_eq_true, if_false] at hP
  simp only [Ctr, ptr, if_true, Bool.false_eq_true, if_false]
  have C1 := next_any h0
  clear hc
  by_cases e1 : nx ts i = closing
  · rw [if_pos e1] at hP
    cases hP
    have q1 := hT.more hi (show nx ts i ≠ [] by rw [e1]; exact HC.out)
    rw [e1] at C1
    have CW := fun w' (f : Fr [] w w') => want_yes (h0.fr f (by simp)) closing e1 q1
    clear e1
    go_enter Tryz.func54, Tryz.ntmps54
    go_wp2_with fail
    refine C1.mono ?_
    rintro e w1 ⟨rfl, f1⟩
    have C2 := CW w1 f1
    clear C1 CW
    go_wp2_with fail
    refine C2.mono ?_
    rintro e w2 ⟨rfl, h2, f2⟩
    go_wp2
    go_ret
    exact ⟨_, F, rfl, ON.nil _ _, fun k hk => by simp [Value.ownBlock] at hk, h2, (Tr.of0 f1).trans (Tr.of f2)⟩
  · rw [if_neg e1] at hP
    have ne : (nx ts i == closing) = false := by simpa using e1
    have HP : Hid (_ = some r) := hP
    clear e1 hP
    generalize nx ts i = X at *
    go_enter Tryz.func54, Tryz.ntmps54
    go_wp2_with fail
    refine C1.mono ?_
    rintro e w1 ⟨rfl, f1⟩
    have h1 := h0.fr f1 (by simp)
    have T1 := T0.fr f1 (by simp)
    have t1 := (Tr.refl F w).trans (Tr.of0 f1)
    clear C1
    rcases bindR_some HP.out with ⟨er, hr, he⟩ | ⟨v2, j2, n2, hr, hP2⟩
    · subst he
      have C2 := H f .name _ _ w1 _ _ (Nat.le_refl _) h1 T1 trivial hn hr
      simp only [Ctr, ptr] at C2
      go_wp2_with fail
      refine C2.mono ?_
      rintro e w2 ⟨rfl, f2⟩
      exact ⟨rfl, rfl, t1.ends f2⟩
    · obtain ⟨oa, ob, oc, od, oe⟩ := run_ok hT (nt := .name) (ns := ns) h1.ti trivial hr
      simp only [consN, slack] at oa od
      obtain ⟨m2, rfl, hm2⟩ := oe rfl
      have C2 := H f .name _ _ w1 _ _ (Nat.le_refl _) h1 T1 trivial hn hr
      simp only [Ctr, ptr] at C2
      have HP : Hid (P ts f (.listedL false closing [m2]) j2 n2 = some r) := hP2
      have hb2 : Hid (n2.length ≤ 2 * j2 + 1 ∧ i < j2 ∧ j2 < ts.length) := by unfold Hid; omega
      clear hr oa ob oc od oe hP2 hn hm2
      go_wp2_with fail
      refine C2.mono ?_
      rintro e w2 ⟨he, F2, h2, s2⟩
      obtain rfl : e = .returned (.int .i64 (m2 : Nat)) := he
      have T2 := h1.tabs T1 s2.f
      have t2 := t1.trans s2
      have HB2 : Hid (B ≤ w2.heap.size) := by have := HBW.out; have := t2.f.size; unfold Hid; omega
      have k2 := KR.nil B w F2 w2
      clear C2 ne
      go_wp2_with (at_builtin; refine wpList_append_own_at _ rfl _ _ 28 rfl B 3 i3 (.int .i64 0) 1 8 under35 hi3 hz hz1 hby rfl (by decide) (.slice none 0 0) 0 (([] : List Nat).map (fun k => Value.int .i64 (k : Nat))) rfl (k2.on.alloc _) ⟨w2.heap.size, 0, none⟩ 1 1 [.int .i64 (m2 : Nat)] rfl rfl (one_new w2 _) (by simp [Value.oneCell']) (by unfold maxLen; omega) (by omega) (by have := HB2.out; simp; omega) ?_)
      intro v3 w3 hown3 hgrow3 hnil3 hloc3
      have f3 : Fr [] w2 w3 := ((Fr.refl _ _).alloc _).trans ((Fr.ofGrown hgrow3).sub (fun k hk => by simp [Value.ownBlock] at hk))
      have h3 := h2.fr f3 (by simp)
      have T3 : Tabs w3 := T2.fr f3 (by simp)
      have k3 := k2.snoc (m := m2) t2.f.size (fun k hk => (h2.fb k hk).2) hown3 (by simpa using hloc3)
      simp only [List.nil_append] at k3
      have t3 : Tr F w F2 w3 := t2.trans (Tr.of0 f3)
      clear hgrow3 hnil3 hloc3 f3 h2 T2 k2 t2 hown3 h1 T1 t1 f1 s2
      obtain ⟨ya, yc, hy0, _⟩ := own_slice k3.on
      have hy : v3 = .slice ya 1 yc := hy0
      clear hy0
      subst hy
      go_wp2
      go_loopw [7] (fun kv wr => ∃ g acc i' ns' F', g ≤ f ∧ PS ts B pb F' i' ns' wr ∧ Tabs wr ∧ KR B w F' wr kv acc ∧ Tr F w F' wr ∧ Hid (ns'.length ≤ 2 * i' + 1 ∧ i < i' ∧ acc.length ≤ i') ∧ Hid (P ts g (.listedL false closing acc) i' ns' = some r)) (fun _ wr => ts.length - posOf pb wr)
      case atStart => exact ⟨f, [m2], j2, n2, F2, Nat.le_refl _, h3, T3, k3, t3, by have := hb2.out; unfold Hid; simp; omega, HP⟩
      case round =>
        obtain ⟨g, acc, p, ms, F4, hg, hps, hTb, hkr, htr, hbd, hPP⟩ := hrel
        clear h3 T3 t3 k3 HP hb2
        have HG : Hid (g ≤ f) := hg
        have hpi := hps.ti
        have HPI : Hid (p < ts.length ∧ posOf pb wr = p) := ⟨hpi, hps.pos⟩
        clear hg
        obtain ⟨ka, kc, hkv, _⟩ := own_slice hkr.on
        subst hkv
        cases g with
        | zero => exact absurd hPP.out (by simp [P])
        | succ g =>
          have hP := hPP.out
          clear hPP
          simp only [P, if_true, Bool.false_eq_true, if_false] at hP
          by_cases e : nx ts p = [44]
          · rw [if_pos e] at hP
            have q5 := hT.more hpi (show nx ts p ≠ [] by rw [e]; decide)
            have C5 := passIf_yes hps [44] e q5
            clear e
            go_wp2_with fail
            refine C5.mono ?_
            rintro e w5 ⟨rfl, h5, f5⟩
            have T5 := hps.tabs hTb f5
            have k5 := hkr.tr (Tr.of f5)
            have t5 := htr.trans (Tr.of f5)
            clear C5
            rcases bindR_some hP with ⟨er, hr, he⟩ | ⟨v6, j6, n6, hr, hP6⟩
            · subst he
              have C6 := H g .name _ _ w5 _ _ (by have := HG.out; omega) h5 T5 trivial (by have := hbd.out; omega) hr
              simp only [Ctr, ptr] at C6
              go_wp2_with fail
              refine C6.mono ?_
              rintro e w6 ⟨rfl, f6⟩
              exact ⟨rfl, rfl, t5.ends f6⟩
            · obtain ⟨oa, ob, oc, od, oe⟩ := run_ok hT (nt := .name) (ns := ms) h5.ti trivial hr
              simp only [consN, slack] at oa od
              obtain ⟨m6, rfl, hm6⟩ := oe rfl
              have C6 := H g .name _ _ w5 _ _ (by have := HG.out; omega) h5 T5 trivial (by have := hbd.out; omega) hr
              simp only [Ctr, ptr] at C6
              have HP6 : Hid (P ts g (.listedL false closing (acc ++ [m6])) j6 n6 = some r) := hP6
              have hb6 : Hid (n6.length ≤ 2 * j6 + 1 ∧ i < j6 ∧ acc.length + 1 ≤ j6 ∧ p < j6 ∧ j6 < ts.length) := by have := hbd.out; unfold Hid; omega
              clear hP hr oa ob oc od oe hP6 hm6
              go_wp2_with fail
              refine C6.mono ?_
              rintro e w6 ⟨he, F6, h6, s6⟩
              obtain rfl : e = .returned (.int .i64 (m6 : Nat)) := he
              have k6 := k5.tr s6
              have t6 := t5.trans s6
              have T6 := h5.tabs T5 s6.f
              have HB6 : Hid (B ≤ w6.heap.size) := by have := HBW.out; have := t6.f.size; unfold Hid; omega
              clear C6
              go_wp2_with (at_builtin; refine wpList_append_own_at _ rfl _ _ 28 rfl B 3 i3 (.int .i64 0) 1 8 under35 hi3 hz hz1 hby rfl (by decide) (.slice ka acc.length kc) acc.length (acc.map (fun k => Value.int .i64 (k : Nat))) rfl (k6.on.alloc _) ⟨w6.heap.size, 0, none⟩ 1 1 [.int .i64 (m6 : Nat)] rfl rfl (one_new w6 _) (by simp [Value.oneCell']) (by have := hb6.out; have := HTL.out; unfold maxLen; omega) (by have := hb6.out; have := HTL.out; omega) (by have := HB6.out; simp; omega) ?_)
              intro v7 w7 hown7 hgrow7 hnil7 hloc7
              have f7 : Fr (Value.slice ka acc.length kc).ownBlock.toList w6 w7 := ((Fr.refl _ _).alloc _).trans ((Fr.ofGrown hgrow7).sub (fun k hk => .inl hk))
              have hni : ∀ k ∈ (Value.slice ka acc.length kc).ownBlock.toList, k ∉ F6 := fun k hk => k6.ni k (by simpa using hk)
              have h7 := h6.fr f7 hni
              have T7 : Tabs w7 := T6.fr f7 (fun k hk => by have := (k6.on.lt k (by simpa using hk)).1; have := h6.lo; omega)
              have k7 := k6.snoc t6.f.size (fun k hk => (h6.fb k hk).2) hown7 (by simpa using hloc7)
              have t7 : Tr F w F6 w7 := row_tr t6 f7 (fun k hk => k6.lo k (by simpa using hk))
              clear hgrow7 hnil7 hloc7 f7 hni h6 T6 k6 t6 k5 t5 h5 T5 hkr hps hTb htr hown7
              have HM7 : Hid (posOf pb w7 = j6) := h7.pos
              go_wp2
              go_roundw
              case rel => exact ⟨g, acc ++ [m6], j6, n6, F6, by have := HG.out; omega, h7, T7, k7, t7, by have := hb6.out; unfold Hid; simp; omega, HP6⟩
              case measure =>
                have e1 := hb6.out
                have e2 := HPI.out
                have e3 := HM7.out
                omega
          · rw [if_neg e] at hP
            have C5 := passIf_no hps [44] e
            clear e
            by_cases ec : nx ts p = closing
            · rw [wantR_yes ec] at hP
              cases hP
              have q5 := hT.more hpi (show nx ts p ≠ [] by rw [ec]; exact HC.out)
              have CW := fun w' (f : Fr [] wr w') => want_yes (hps.fr f (by simp)) closing ec q5
              clear ec
              go_wp2_with fail
              refine C5.mono ?_
              rintro e w5 ⟨rfl, f5⟩
              have C6 := CW w5 f5
              clear C5 CW
              go_wp2_with fail
              refine C6.mono ?_
              rintro e w6 ⟨rfl, h6, f6⟩
              have k6 := (hkr.tr (Tr.of0 f5)).tr (Tr.of f6)
              have t6 := (htr.trans (Tr.of0 f5)).trans (Tr.of f6)
              go_wp2
              go_ret
              exact ⟨_, F4, rfl, k6.on, fun k hk => ⟨k6.ni k hk, k6.lo k hk⟩, h6, t6⟩
            · rw [wantR_no ec] at hP
              cases hP
              have CW := fun w' (f : Fr [] wr w') => want_no (hps.fr f (by simp)) closing ec
              clear ec
              go_wp2_with fail
              refine C5.mono ?_
              rintro e w5 ⟨rfl, f5⟩
              have C6 := CW w5 f5
              clear C5 CW
              go_wp2_with fail
              refine C6.mono ?_
              rintro e w6 ⟨rfl, f6⟩
              exact ⟨rfl, rfl, htr.ends ((f5.trans f6).sub (by simp))⟩

set_option maxRecDepth 100000 in
set_option maxHeartbeats 4000000 in
theorem c_listed_true {ts : List Tok} {B pb : Nat} (hT : Toks ts) {f i : Nat} {closing : List UInt8} {ns : List PN} {w : World} {F : List Nat} {r : Except Nat (List Nat × Nat × List PN)} (H : Hyp ts B pb f) (h0 : PS ts B pb F i ns w) (T0 : Tabs w) (hc : closing ≠ []) (hn : ns.length ≤ 2 * i + 1) (hP : P ts (f + 1) (.listed true closing) i ns = some r) : Ctr ts B pb F w r (.listed true closing) := by
  obtain ⟨i3, hi3, hz, hz1, hby⟩ := info_parts info3
  have hi := h0.ti
  have HTL : Hid (ts.length ≤ 200001) := h0.tl
  have HC : Hid (closing ≠ []) := hc
  have HBW : Hid (B ≤ w.heap.size) := by have := h0.fb pb h0.pf; unfold Hid; omega
  have eg : ∀ args w, (callFunc 57 args).run Tryz.prog w = .ok (.enter 57 args) w := enters_of Tryz.func57 (by kernel_rfl) rfl
  simp only [P, if_true, Bool.false_eq_true, if_false] at hP
  simp only [Ctr, ptr, if_true, Bool.false_eq_true, if_false]
  have C1 := next_any h0
  clear hc
  by_cases e1 : nx ts i = closing
  · rw [if_pos e1] at hP
    cases hP
    have q1 := hT.more hi (show nx ts i ≠ [] by rw [e1]; exact HC.out)
    rw [e1] at C1
    have CW := fun w' (f : Fr [] w w') => want_yes (h0.fr f (by simp)) closing e1 q1
    clear e1
    go_enter Tryz.func54, Tryz.ntmps54
    go_wp2_with fail
    refine C1.mono ?_
    rintro e w1 ⟨rfl, f1⟩
    have C2 := CW w1 f1
    clear C1 CW
    go_wp2_with fail
    refine C2.mono ?_
    rintro e w2 ⟨rfl, h2, f2⟩
    go_wp2
    go_ret
    exact ⟨_, F, rfl, ON.nil _ _, fun k hk => by simp [Value.ownBlock] at hk, h2, (Tr.of0 f1).trans (Tr.of f2)⟩
  · rw [if_neg e1] at hP
    have ne : (nx ts i == closing) = false := by simpa using e1
    have HP : Hid (_ = some r) := hP
    clear e1 hP
    generalize nx ts i = X at *
    go_enter Tryz.func54, Tryz.ntmps54
    go_wp2_with fail
    refine C1.mono ?_
    rintro e w1 ⟨rfl, f1⟩
    have h1 := h0.fr f1 (by simp)
    have T1 := T0.fr f1 (by simp)
    have t1 := (Tr.refl F w).trans (Tr.of0 f1)
    clear C1
    rcases bindR_some HP.out with ⟨er, hr, he⟩ | ⟨v2, j2, n2, hr, hP2⟩
    · subst he
      have C2 := H f .expr _ _ w1 _ _ (Nat.le_refl _) h1 T1 trivial hn hr
      simp only [Ctr, ptr] at C2
      go_wp2_with fail
      refine C2.mono ?_
      rintro e w2 ⟨rfl, f2⟩
      exact ⟨rfl, rfl, t1.ends f2⟩
    · obtain ⟨oa, ob, oc, od, oe⟩ := run_ok hT (nt := .expr) (ns := ns) h1.ti trivial hr
      simp only [consN, slack] at oa od
      obtain ⟨m2, rfl, hm2⟩ := oe rfl
      have C2 := H f .expr _ _ w1 _ _ (Nat.le_refl _) h1 T1 trivial hn hr
      simp only [Ctr, ptr] at C2
      have HP : Hid (P ts f (.listedL true closing [m2]) j2 n2 = some r) := hP2
      have hb2 : Hid (n2.length ≤ 2 * j2 + 1 ∧ i < j2 ∧ j2 < ts.length) := by unfold Hid; omega
      clear hr oa ob oc od oe hP2 hn hm2
      go_wp2_with fail
      refine C2.mono ?_
      rintro e w2 ⟨he, F2, h2, s2⟩
      obtain rfl : e = .returned (.int .i64 (m2 : Nat)) := he
      have T2 := h1.tabs T1 s2.f
      have t2 := t1.trans s2
      have HB2 : Hid (B ≤ w2.heap.size) := by have := HBW.out; have := t2.f.size; unfold Hid; omega
      have k2 := KR.nil B w F2 w2
      clear C2 ne
      go_wp2_with (at_builtin; refine wpList_append_own_at _ rfl _ _ 28 rfl B 3 i3 (.int .i64 0) 1 8 under35 hi3 hz hz1 hby rfl (by decide) (.slice none 0 0) 0 (([] : List Nat).map (fun k => Value.int .i64 (k : Nat))) rfl (k2.on.alloc _) ⟨w2.heap.size, 0, none⟩ 1 1 [.int .i64 (m2 : Nat)] rfl rfl (one_new w2 _) (by simp [Value.oneCell']) (by unfold maxLen; omega) (by omega) (by have := HB2.out; simp; omega) ?_)
      intro v3 w3 hown3 hgrow3 hnil3 hloc3
      have f3 : Fr [] w2 w3 := ((Fr.refl _ _).alloc _).trans ((Fr.ofGrown hgrow3).sub (fun k hk => by simp [Value.ownBlock] at hk))
      have h3 := h2.fr f3 (by simp)
      have T3 : Tabs w3 := T2.fr f3 (by simp)
      have k3 := k2.snoc (m := m2) t2.f.size (fun k hk => (h2.fb k hk).2) hown3 (by simpa using hloc3)
      simp only [List.nil_append] at k3
      have t3 : Tr F w F2 w3 := t2.trans (Tr.of0 f3)
      clear hgrow3 hnil3 hloc3 f3 h2 T2 k2 t2 hown3 h1 T1 t1 f1 s2
      obtain ⟨ya, yc, hy0, _⟩ := own_slice k3.on
      have hy : v3 = .slice ya 1 yc := hy0
      clear hy0
      subst hy
      go_wp2
      go_loopw [7] (fun kv wr => ∃ g acc i' ns' F', g ≤ f ∧ PS ts B pb F' i' ns' wr ∧ Tabs wr ∧ KR B w F' wr kv acc ∧ Tr F w F' wr ∧ Hid (ns'.length ≤ 2 * i' + 1 ∧ i < i' ∧ acc.length ≤ i') ∧ Hid (P ts g (.listedL true closing acc) i' ns' = some r)) (fun _ wr => ts.length - posOf pb wr)
      case atStart => exact ⟨f, [m2], j2, n2, F2, Nat.le_refl _, h3, T3, k3, t3, by have := hb2.out; unfold Hid; simp; omega, HP⟩
      case round =>
        obtain ⟨g, acc, p, ms, F4, hg, hps, hTb, hkr, htr, hbd, hPP⟩ := hrel
        clear h3 T3 t3 k3 HP hb2
        have HG : Hid (g ≤ f) := hg
        have hpi := hps.ti
        have HPI : Hid (p < ts.length ∧ posOf pb wr = p) := ⟨hpi, hps.pos⟩
        clear hg
        obtain ⟨ka, kc, hkv, _⟩ := own_slice hkr.on
        subst hkv
        cases g with
        | zero => exact absurd hPP.out (by simp [P])
        | succ g =>
          have hP := hPP.out
          clear hPP
          simp only [P, if_true, Bool.false_eq_true, if_false] at hP
          by_cases e : nx ts p = [44]
          · rw [if_pos e] at hP
            have q5 := hT.more hpi (show nx ts p ≠ [] by rw [e]; decide)
            have C5 := passIf_yes hps [44] e q5
            clear e
            go_wp2_with fail
            refine C5.mono ?_
            rintro e w5 ⟨rfl, h5, f5⟩
            have T5 := hps.tabs hTb f5
            have k5 := hkr.tr (Tr.of f5)
            have t5 := htr.trans (Tr.of f5)
            clear C5
            rcases bindR_some hP with ⟨er, hr, he⟩ | ⟨v6, j6, n6, hr, hP6⟩
            · subst he
              have C6 := H g .expr _ _ w5 _ _ (by have := HG.out; omega) h5 T5 trivial (by have := hbd.out; omega) hr
              simp only [Ctr, ptr] at C6
              go_wp2_with fail
              refine C6.mono ?_
              rintro e w6 ⟨rfl, f6⟩
              exact ⟨rfl, rfl, t5.ends f6⟩
            · obtain ⟨oa, ob, oc, od, oe⟩ := run_ok hT (nt := .expr) (ns := ms) h5.ti trivial hr
              simp only [consN, slack] at oa od
              obtain ⟨m6, rfl, hm6⟩ := oe rfl
              have C6 := H g .expr _ _ w5 _ _ (by have := HG.out; omega) h5 T5 trivial (by have := hbd.out; omega) hr
              simp only [Ctr, ptr] at C6
              have HP6 : Hid (P ts g (.listedL true closing (acc ++ [m6])) j6 n6 = some r) := hP6
              have hb6 : Hid (n6.length ≤ 2 * j6 + 1 ∧ i < j6 ∧ acc.length + 1 ≤ j6 ∧ p < j6 ∧ j6 < ts.length) := by have := hbd.out; unfold Hid; omega
              clear hP hr oa ob oc od oe hP6 hm6
              go_wp2_with fail
              refine C6.mono ?_
              rintro e w6 ⟨he, F6, h6, s6⟩
              obtain rfl : e = .returned (.int .i64 (m6 : Nat)) := he
              have k6 := k5.tr s6
              have t6 := t5.trans s6
              have T6 := h5.tabs T5 s6.f
              have HB6 : Hid (B ≤ w6.heap.size) := by have := HBW.out; have := t6.f.size; unfold Hid; omega
              clear C6
              go_wp2_with (at_builtin; refine wpList_append_own_at _ rfl _ _ 28 rfl B 3 i3 (.int .i64 0) 1 8 under35 hi3 hz hz1 hby rfl (by decide) (.slice ka acc.length kc) acc.length (acc.map (fun k => Value.int .i64 (k : Nat))) rfl (k6.on.alloc _) ⟨w6.heap.size, 0, none⟩ 1 1 [.int .i64 (m6 : Nat)] rfl rfl (one_new w6 _) (by simp [Value.oneCell']) (by have := hb6.out; have := HTL.out; unfold maxLen; omega) (by have := hb6.out; have := HTL.out; omega) (by have := HB6.out; simp; omega) ?_)
              intro v7 w7 hown7 hgrow7 hnil7 hloc7
              have f7 : Fr (Value.slice ka acc.length kc).ownBlock.toList w6 w7 := ((Fr.refl _ _).alloc _).trans ((Fr.ofGrown hgrow7).sub (fun k hk => .inl hk))
              have hni : ∀ k ∈ (Value.slice ka acc.length kc).ownBlock.toList, k ∉ F6 := fun k hk => k6.ni k (by simpa using hk)
              have h7 := h6.fr f7 hni
              have T7 : Tabs w7 := T6.fr f7 (fun k hk => by have := (k6.on.lt k (by simpa using hk)).1; have := h6.lo; omega)
              have k7 := k6.snoc t6.f.size (fun k hk => (h6.fb k hk).2) hown7 (by simpa using hloc7)
              have t7 : Tr F w F6 w7 := row_tr t6 f7 (fun k hk => k6.lo k (by simpa using hk))
              clear hgrow7 hnil7 hloc7 f7 hni h6 T6 k6 t6 k5 t5 h5 T5 hkr hps hTb htr hown7
              have HM7 : Hid (posOf pb w7 = j6) := h7.pos
              go_wp2
              go_roundw
              case rel => exact ⟨g, acc ++ [m6], j6, n6, F6, by have := HG.out; omega, h7, T7, k7, t7, by have := hb6.out; unfold Hid; simp; omega, HP6⟩
              case measure =>
                have e1 := hb6.out
                have e2 := HPI.out
                have e3 := HM7.out
                omega
          · rw [if_neg e] at hP
            have C5 := passIf_no hps [44] e
            clear e
            by_cases ec : nx ts p = closing
            · rw [wantR_yes ec] at hP
              cases hP
              have q5 := hT.more hpi (show nx ts p ≠ [] by rw [ec]; exact HC.out)
              have CW := fun w' (f : Fr [] wr w') => want_yes (hps.fr f (by simp)) closing ec q5
              clear ec
              go_wp2_with fail
              refine C5.mono ?_
              rintro e w5 ⟨rfl, f5⟩
              have C6 := CW w5 f5
              clear C5 CW
              go_wp2_with fail
              refine C6.mono ?_
              rintro e w6 ⟨rfl, h6, f6⟩
              have k6 := (hkr.tr (Tr.of0 f5)).tr (Tr.of f6)
              have t6 := (htr.trans (Tr.of0 f5)).trans (Tr.of f6)
              go_wp2
              go_ret
              exact ⟨_, F4, rfl, k6.on, fun k hk => ⟨k6.ni k hk, k6.lo k hk⟩, h6, t6⟩
            · rw [wantR_no ec] at hP
              cases hP
              have CW := fun w' (f : Fr [] wr w') => want_no (hps.fr f (by simp)) closing ec
              clear ec
              go_wp2_with fail
              refine C5.mono ?_
              rintro e w5 ⟨rfl, f5⟩
              have C6 := CW w5 f5
              clear C5 CW
              go_wp2_with fail
              refine C6.mono ?_
              rintro e w6 ⟨rfl, f6⟩
              exact ⟨rfl, rfl, htr.ends ((f5.trans f6).sub (by simp))⟩

end Go.Proofs.YtekjfddcbcijdaaGreatDoor
