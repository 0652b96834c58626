/-
  What the parser's calls do that go straight on; conditions: the parser lies as told.
-/
import Derived.Test.YtekjfddcbcijdaaGreatDoorParE
namespace Go.Proofs.YtekjfddcbcijdaaGreatDoor
open Go.RowKit
set_option linter.unusedVariables false
set_option linter.unusedSimpArgs false

set_option maxRecDepth 100000 in
set_option maxHeartbeats 2000000 in
theorem c_name {ts : List Tok} {B pb : Nat} (hT : Toks ts) {f i : Nat} {ns : List PN} {w : World} {F : List Nat} {r : Except Nat (List Nat × Nat × List PN)} (H : Hyp ts B pb f) (h0 : PS ts B pb F i ns w) (T0 : Tabs w) (hp : preN ts i ns (.name)) (hn : ns.length ≤ 2 * i + 1) (hP : P ts (f + 1) (.name) i ns = some r) : Ctr ts B pb F w r (.name) := by
  have hi := h0.ti
  have HTL : Hid (ts.length ≤ 200001) := h0.tl
  simp only [P] at hP
  have HP : Hid (_ = some r) := hP
  clear hP
  simp only [Ctr, ptr]
  have t0 := Tr.refl F w
  have HF0 : Hid (∀ k ∈ F, k < w.heap.size) := fun k hk => (h0.fb k hk).2
  have HN : Hid (ns.length ≤ 2 * i + 1) := hn
  clear hn
  by_cases e1 : nx ts (i) = nmB
  rotate_left
  · have hP := HP.out
    rw [wantR_no e1] at hP
    have C1 := want_no h0 nmB e1
    unfold thrown at C1
    unfold nmB at C1
    cases hP
    go_enter Tryz.func55, Tryz.ntmps55
    go_wp2_with fail
    refine C1.mono ?_
    rintro e w1 ⟨rfl, f1⟩
    exact ⟨rfl, rfl, t0.ends (f1.sub (by simp))⟩
  have q1 := hT.more hi (show nx ts (i) ≠ [] by rw [e1]; decide)
  have hP := HP.out
  rw [wantR_yes e1] at hP
  have HP : Hid (_ = some r) := hP
  clear hP
  have C1 := want_yes h0 nmB e1 q1
  unfold tokA at C1
  unfold nmB at C1
  clear e1
  go_enter Tryz.func55, Tryz.ntmps55
  go_wp2_with fail
  refine C1.mono ?_
  rintro e w1 ⟨rfl, h1, f1⟩
  clear C1
  have s1 := Tr.of f1
  have t1 := t0.trans s1
  have T1 := h0.tabs T0 f1
  have h1 : PS ts B pb F (i + 1) ns w1 := h1
  have q1 : i + 1 < ts.length := q1
  have g2 : Fr [] w1 (w1.alloc (.cells #[.int .i64 ((tk ts (i)).kind : Nat), .string ⟨(tk ts (i)).text.toArray⟩, .int .i64 ((tk ts (i)).frm : Nat), .int .i64 ((tk ts (i)).to : Nat), .int .i64 ((tk ts (i)).n : Nat)] 43)) := (Fr.refl _ _).alloc _
  have v2 := TB.new w1 (.int .i64 ((tk ts (i)).kind : Nat)) (.string ⟨(tk ts (i)).text.toArray⟩) (.int .i64 ((tk ts (i)).frm : Nat)) (.int .i64 ((tk ts (i)).to : Nat)) (.int .i64 ((tk ts (i)).n : Nat))
  have ni2 : w1.heap.size ∉ F := fun hm => by have := (h1.fb _ hm).2; omega
  have h2 := h1.fr g2 (by simp)
  have t2 := t1.trans (Tr.of0 g2)
  have T2 := T1.fr g2 (by simp)
  have hP := HP.out
  cases hP
  have a0 := v2.c1
  have b0 := v2.c2
  have KV0 := KV.nil B (w1.alloc (.cells #[.int .i64 ((tk ts (i)).kind : Nat), .string ⟨(tk ts (i)).text.toArray⟩, .int .i64 ((tk ts (i)).frm : Nat), .int .i64 ((tk ts (i)).to : Nat), .int .i64 ((tk ts (i)).n : Nat)] 43))
  have LO : ∀ k ∈ ([] : List Nat), w.heap.size ≤ k := by simp
  have CL := lay_any h2 KV0 17 (tk ts i).text (tk ts i).frm (by have := HN.out; have := HTL.out; have := q1; omega)
  go_wp2_with fail
  refine CL.mono ?_
  rintro e wz ⟨rfl, Fz, hz, fz, sz⟩
  have tz : Tr F w Fz wz := lay_tr t2 fz sz LO
  go_wp2
  go_ret
  exact ⟨rfl, Fz, hz, tz⟩

set_option maxRecDepth 100000 in
set_option maxHeartbeats 2000000 in
theorem c_recd {ts : List Tok} {B pb : Nat} (hT : Toks ts) {f i : Nat} {ns : List PN} {w : World} {F : List Nat} {r : Except Nat (List Nat × Nat × List PN)} (H : Hyp ts B pb f) (h0 : PS ts B pb F i ns w) (T0 : Tabs w) (hp : preN ts i ns (.recd)) (hn : ns.length ≤ 2 * i + 1) (hP : P ts (f + 1) (.recd) i ns = some r) : Ctr ts B pb F w r (.recd) := by
  have hi := h0.ti
  have HTL : Hid (ts.length ≤ 200001) := h0.tl
  simp only [P] at hP
  have HP : Hid (_ = some r) := hP
  clear hP
  simp only [Ctr, ptr]
  have t0 := Tr.refl F w
  have HF0 : Hid (∀ k ∈ F, k < w.heap.size) := fun k hk => (h0.fb k hk).2
  have HN : Hid (ns.length ≤ 2 * i + 1) := hn
  clear hn
  have q1 := hT.more hi hp
  have C1 := pass_any h0 q1
  unfold tokA at C1
  go_enter Tryz.func20, Tryz.ntmps20
  go_wp2_with fail
  refine C1.mono ?_
  rintro e w1 ⟨rfl, h1, f1⟩
  clear C1
  have s1 := Tr.of f1
  have t1 := t0.trans s1
  have T1 := h0.tabs T0 f1
  have h1 : PS ts B pb F (i + 1) ns w1 := h1
  have q1 : i + 1 < ts.length := q1
  have fl1 := fld2 ((tk ts (i)).kind : Nat) ((tk ts (i)).frm : Nat) ((tk ts (i)).to : Nat) ((tk ts (i)).n : Nat) ⟨(tk ts (i)).text.toArray⟩ w1
  by_cases e2 : nx ts (i + 1) = nmB
  rotate_left
  · have hP := HP.out
    rw [wantR_no e2] at hP
    have C2 := want_no h1 nmB e2
    unfold thrown at C2
    unfold nmB at C2
    cases hP
    go_wp2_with fail
    refine C2.mono ?_
    rintro e w2 ⟨rfl, f2⟩
    exact ⟨rfl, rfl, t1.ends (f2.sub (by simp))⟩
  have q2 := hT.more q1 (show nx ts (i + 1) ≠ [] by rw [e2]; decide)
  have hP := HP.out
  rw [wantR_yes e2] at hP
  have HP : Hid (_ = some r) := hP
  clear hP
  have C2 := want_yes h1 nmB e2 q2
  unfold tokA at C2
  unfold nmB at C2
  clear e2
  go_wp2_with fail
  refine C2.mono ?_
  rintro e w2 ⟨rfl, h2, f2⟩
  clear C2
  have s2 := Tr.of f2
  have t2 := t1.trans s2
  have T2 := h1.tabs T1 f2
  have h2 : PS ts B pb F (i + 2) ns w2 := h2
  have q2 : i + 2 < ts.length := q2
  have g3 : Fr [] w2 (w2.alloc (.cells #[.int .i64 ((tk ts (i + 1)).kind : Nat), .string ⟨(tk ts (i + 1)).text.toArray⟩, .int .i64 ((tk ts (i + 1)).frm : Nat), .int .i64 ((tk ts (i + 1)).to : Nat), .int .i64 ((tk ts (i + 1)).n : Nat)] 43)) := (Fr.refl _ _).alloc _
  have v3 := TB.new w2 (.int .i64 ((tk ts (i + 1)).kind : Nat)) (.string ⟨(tk ts (i + 1)).text.toArray⟩) (.int .i64 ((tk ts (i + 1)).frm : Nat)) (.int .i64 ((tk ts (i + 1)).to : Nat)) (.int .i64 ((tk ts (i + 1)).n : Nat))
  have ni3 : w2.heap.size ∉ F := fun hm => by have := (h2.fb _ hm).2; omega
  have h3 := h2.fr g3 (by simp)
  have t3 := t2.trans (Tr.of0 g3)
  have T3 := T2.fr g3 (by simp)
  by_cases e4 : nx ts (i + 2) = [123]
  rotate_left
  · have hP := HP.out
    rw [wantR_no e4] at hP
    have C4 := want_no h3 [123] e4
    unfold thrown at C4
    cases hP
    go_wp2_with fail
    refine C4.mono ?_
    rintro e w4 ⟨rfl, f4⟩
    exact ⟨rfl, rfl, t3.ends (f4.sub (by simp))⟩
  have q4 := hT.more q2 (show nx ts (i + 2) ≠ [] by rw [e4]; decide)
  have hP := HP.out
  rw [wantR_yes e4] at hP
  have HP : Hid (_ = some r) := hP
  clear hP
  have C4 := want_yes h3 [123] e4 q4
  unfold tokA at C4
  clear e4
  go_wp2_with fail
  refine C4.mono ?_
  rintro e w4 ⟨rfl, h4, f4⟩
  clear C4
  have s4 := Tr.of f4
  have t4 := t3.trans s4
  have T4 := h3.tabs T3 f4
  have u0_4 := v3.fr f4 ni3
  have ni0_4 := Tr.notin s4 ni3 v3.lt
  have h4 : PS ts B pb F (i + 3) ns w4 := h4
  have q4 : i + 3 < ts.length := q4
  rcases bindR_some HP.out with ⟨er, hr, he⟩ | ⟨v5, j5, n5, hr, hP⟩
  · subst he
    have C5 := H f (.listed false [125]) _ _ w4 _ _ (Nat.le_refl _) h4 T4 (by simp [preN]) (by have := HN.out; omega) hr
    simp only [Ctr, ptr, if_true, Bool.false_eq_true, if_false] at C5
    go_wp2_with fail
    refine C5.mono ?_
    rintro e w5 ⟨rfl, f5⟩
    exact ⟨rfl, rfl, t4.ends f5⟩
  obtain ⟨o5a, o5b, o5c, o5d, _⟩ := run_ok hT (nt := .listed false [125]) (ns := ns) h4.ti (by simp [preN]) hr
  simp only [consN, slack] at o5a o5d
  have C5 := H f (.listed false [125]) _ _ w4 _ _ (Nat.le_refl _) h4 T4 (by simp [preN]) (by have := HN.out; omega) hr
  simp only [Ctr, ptr, if_true, Bool.false_eq_true, if_false] at C5
  have HP : Hid (_ = some r) := hP
  have B5 : Hid (n5.length + 5 ≤ 2 * j5 + 0 ∧ i < j5) := by have := HN.out; unfold Hid; omega
  have q5 := o5b
  clear hP hr o5a o5b o5c o5d
  go_wp2_with fail
  refine C5.mono ?_
  rintro e w5 ⟨x5, F5, rfl, o5, y5, h5, s5⟩
  clear C5
  have f5 := s5.f
  have z5 : Hid (∀ k, (x5 : Value).ownBlock = some k → w.heap.size ≤ k) := fun k hk => Nat.le_trans t4.f.size (y5 k hk).2
  have ny5 : ∀ k, (x5 : Value).ownBlock = some k → k ∉ F5 := fun k hk => (y5 k hk).1
  clear y5
  have t5 := t4.trans s5
  have T5 := h4.tabs T4 f5
  have u0_5 := u0_4.fr f5 ni0_4
  have ni0_5 := Tr.notin s5 ni0_4 u0_4.lt
  have hP := HP.out
  cases hP
  have a0 := u0_5.c1
  have b0 := u0_5.c2
  obtain ⟨xa, xc, hx, _⟩ := own_slice o5
  have KV0 := ON.kv o5
  have LO : ∀ k ∈ (x5).ownBlock.toList, w.heap.size ≤ k := fun k hk => z5.out k (by simpa using hk)
  subst hx
  have CL := lay_any h5 KV0 2 (tk ts (i + 1)).text (tk ts (i + 1)).frm (by have := B5.out; have := HTL.out; have := q5; omega)
  go_wp2_with fail
  refine CL.mono ?_
  rintro e wz ⟨rfl, Fz, hz, fz, sz⟩
  have tz : Tr F w Fz wz := lay_tr t5 fz sz LO
  go_wp2
  go_ret
  exact ⟨rfl, Fz, hz, tz⟩

set_option maxRecDepth 100000 in
set_option maxHeartbeats 2000000 in
theorem c_letS {ts : List Tok} {B pb : Nat} (hT : Toks ts) {f i : Nat} {ns : List PN} {w : World} {F : List Nat} {r : Except Nat (List Nat × Nat × List PN)} (H : Hyp ts B pb f) (h0 : PS ts B pb F i ns w) (T0 : Tabs w) (hp : preN ts i ns (.letS)) (hn : ns.length ≤ 2 * i + 1) (hP : P ts (f + 1) (.letS) i ns = some r) : Ctr ts B pb F w r (.letS) := by
  have hi := h0.ti
  have HTL : Hid (ts.length ≤ 200001) := h0.tl
  simp only [P] at hP
  have HP : Hid (_ = some r) := hP
  clear hP
  simp only [Ctr, ptr]
  have t0 := Tr.refl F w
  have HF0 : Hid (∀ k ∈ F, k < w.heap.size) := fun k hk => (h0.fb k hk).2
  have HN : Hid (ns.length ≤ 2 * i + 1) := hn
  clear hn
  have q1 := hT.more hi hp
  have C1 := pass_any h0 q1
  unfold tokA at C1
  go_enter Tryz.func22, Tryz.ntmps22
  go_wp2_with fail
  refine C1.mono ?_
  rintro e w1 ⟨rfl, h1, f1⟩
  clear C1
  have s1 := Tr.of f1
  have t1 := t0.trans s1
  have T1 := h0.tabs T0 f1
  have h1 : PS ts B pb F (i + 1) ns w1 := h1
  have q1 : i + 1 < ts.length := q1
  have fl1 := fld2 ((tk ts (i)).kind : Nat) ((tk ts (i)).frm : Nat) ((tk ts (i)).to : Nat) ((tk ts (i)).n : Nat) ⟨(tk ts (i)).text.toArray⟩ w1
  by_cases e2 : nx ts (i + 1) = nmB
  rotate_left
  · have hP := HP.out
    rw [wantR_no e2] at hP
    have C2 := want_no h1 nmB e2
    unfold thrown at C2
    unfold nmB at C2
    cases hP
    go_wp2_with fail
    refine C2.mono ?_
    rintro e w2 ⟨rfl, f2⟩
    exact ⟨rfl, rfl, t1.ends (f2.sub (by simp))⟩
  have q2 := hT.more q1 (show nx ts (i + 1) ≠ [] by rw [e2]; decide)
  have hP := HP.out
  rw [wantR_yes e2] at hP
  have HP : Hid (_ = some r) := hP
  clear hP
  have C2 := want_yes h1 nmB e2 q2
  unfold tokA at C2
  unfold nmB at C2
  clear e2
  go_wp2_with fail
  refine C2.mono ?_
  rintro e w2 ⟨rfl, h2, f2⟩
  clear C2
  have s2 := Tr.of f2
  have t2 := t1.trans s2
  have T2 := h1.tabs T1 f2
  have h2 : PS ts B pb F (i + 2) ns w2 := h2
  have q2 : i + 2 < ts.length := q2
  have g3 : Fr [] w2 (w2.alloc (.cells #[.int .i64 ((tk ts (i + 1)).kind : Nat), .string ⟨(tk ts (i + 1)).text.toArray⟩, .int .i64 ((tk ts (i + 1)).frm : Nat), .int .i64 ((tk ts (i + 1)).to : Nat), .int .i64 ((tk ts (i + 1)).n : Nat)] 43)) := (Fr.refl _ _).alloc _
  have v3 := TB.new w2 (.int .i64 ((tk ts (i + 1)).kind : Nat)) (.string ⟨(tk ts (i + 1)).text.toArray⟩) (.int .i64 ((tk ts (i + 1)).frm : Nat)) (.int .i64 ((tk ts (i + 1)).to : Nat)) (.int .i64 ((tk ts (i + 1)).n : Nat))
  have ni3 : w2.heap.size ∉ F := fun hm => by have := (h2.fb _ hm).2; omega
  have h3 := h2.fr g3 (by simp)
  have t3 := t2.trans (Tr.of0 g3)
  have T3 := T2.fr g3 (by simp)
  by_cases e4 : nx ts (i + 2) = [61]
  rotate_left
  · have hP := HP.out
    rw [wantR_no e4] at hP
    have C4 := want_no h3 [61] e4
    unfold thrown at C4
    cases hP
    go_wp2_with fail
    refine C4.mono ?_
    rintro e w4 ⟨rfl, f4⟩
    exact ⟨rfl, rfl, t3.ends (f4.sub (by simp))⟩
  have q4 := hT.more q2 (show nx ts (i + 2) ≠ [] by rw [e4]; decide)
  have hP := HP.out
  rw [wantR_yes e4] at hP
  have HP : Hid (_ = some r) := hP
  clear hP
  have C4 := want_yes h3 [61] e4 q4
  unfold tokA at C4
  clear e4
  go_wp2_with fail
  refine C4.mono ?_
  rintro e w4 ⟨rfl, h4, f4⟩
  clear C4
  have s4 := Tr.of f4
  have t4 := t3.trans s4
  have T4 := h3.tabs T3 f4
  have u0_4 := v3.fr f4 ni3
  have ni0_4 := Tr.notin s4 ni3 v3.lt
  have h4 : PS ts B pb F (i + 3) ns w4 := h4
  have q4 : i + 3 < ts.length := q4
  rcases bindR_some HP.out with ⟨er, hr, he⟩ | ⟨v5, j5, n5, hr, hP⟩
  · subst he
    have C5 := H f (.expr) _ _ w4 _ _ (Nat.le_refl _) h4 T4 trivial (by have := HN.out; omega) hr
    simp only [Ctr, ptr] at C5
    go_wp2_with fail
    refine C5.mono ?_
    rintro e w5 ⟨rfl, f5⟩
    exact ⟨rfl, rfl, t4.ends f5⟩
  obtain ⟨o5a, o5b, o5c, o5d, o5e⟩ := run_ok hT (nt := .expr) (ns := ns) h4.ti trivial hr
  simp only [consN, slack] at o5a o5d
  obtain ⟨m5, rfl, hm5⟩ := o5e rfl
  have C5 := H f (.expr) _ _ w4 _ _ (Nat.le_refl _) h4 T4 trivial (by have := HN.out; omega) hr
  simp only [Ctr, ptr] at C5
  have HP : Hid (_ = some r) := hP
  have B5 : Hid (n5.length + 5 ≤ 2 * j5 + 0 ∧ i < j5) := by have := HN.out; unfold Hid; omega
  have q5 := o5b
  clear hP hr o5a o5b o5c o5d o5e
  go_wp2_with fail
  refine C5.mono ?_
  rintro e w5 ⟨he, F5, h5, s5⟩
  obtain rfl : e = .returned (.int .i64 (m5 : Nat)) := he
  clear C5
  have f5 := s5.f
  have t5 := t4.trans s5
  have T5 := h4.tabs T4 f5
  have u0_5 := u0_4.fr f5 ni0_4
  have ni0_5 := Tr.notin s5 ni0_4 u0_4.lt
  by_cases e6 : nx ts (j5) = [59]
  rotate_left
  · have hP := HP.out
    rw [wantR_no e6] at hP
    have C6 := want_no h5 [59] e6
    unfold thrown at C6
    cases hP
    go_wp2_with fail
    refine C6.mono ?_
    rintro e w6 ⟨rfl, f6⟩
    exact ⟨rfl, rfl, t5.ends (f6.sub (by simp))⟩
  have q6 := hT.more q5 (show nx ts (j5) ≠ [] by rw [e6]; decide)
  have hP := HP.out
  rw [wantR_yes e6] at hP
  have HP : Hid (_ = some r) := hP
  clear hP
  have C6 := want_yes h5 [59] e6 q6
  unfold tokA at C6
  clear e6
  go_wp2_with fail
  refine C6.mono ?_
  rintro e w6 ⟨rfl, h6, f6⟩
  clear C6
  have s6 := Tr.of f6
  have t6 := t5.trans s6
  have T6 := h5.tabs T5 f6
  have u0_6 := u0_5.fr f6 ni0_5
  have ni0_6 := Tr.notin s6 ni0_5 u0_5.lt
  have h6 : PS ts B pb F5 (j5 + 1) n5 w6 := h6
  have q6 : j5 + 1 < ts.length := q6
  have hP := HP.out
  cases hP
  have a0 := u0_6.c1
  have b0 := u0_6.c2
  have gb : Fr [] w6 (w6.alloc (.cells #[.int .i64 (m5 : Nat)] 3)) := (Fr.refl _ _).alloc _
  have ob : ON (w6.alloc (.cells #[.int .i64 (m5 : Nat)] 3)) B (.slice (some ⟨w6.heap.size, 0, none⟩) 1 1) [m5] := ON.built w6 B (by have := h6.fb pb h6.pf; omega) [m5] (by simp)
  have KV0 := ON.kv ob
  have LO : ∀ k ∈ (Value.slice (some ⟨w6.heap.size, 0, none⟩) 1 1).ownBlock.toList, w.heap.size ≤ k := fun k hk => by rw [own_mem hk]; exact t6.f.size
  have hb := h6.fr gb (by simp)
  have tb := t6.trans (Tr.of0 gb)
  have CL := lay_any hb KV0 5 (tk ts (i + 1)).text (tk ts (i + 1)).frm (by have := B5.out; have := HTL.out; have := q6; omega)
  go_wp2_with fail
  refine CL.mono ?_
  rintro e wz ⟨rfl, Fz, hz, fz, sz⟩
  have tz : Tr F w Fz wz := lay_tr tb fz sz LO
  go_wp2
  go_ret
  exact ⟨rfl, Fz, hz, tz⟩

set_option maxRecDepth 100000 in
set_option maxHeartbeats 2000000 in
theorem c_choice {ts : List Tok} {B pb : Nat} (hT : Toks ts) {f i : Nat} {ns : List PN} {w : World} {F : List Nat} {r : Except Nat (List Nat × Nat × List PN)} (H : Hyp ts B pb f) (h0 : PS ts B pb F i ns w) (T0 : Tabs w) (hp : preN ts i ns (.choice)) (hn : ns.length ≤ 2 * i + 1) (hP : P ts (f + 1) (.choice) i ns = some r) : Ctr ts B pb F w r (.choice) := by
  have hi := h0.ti
  have HTL : Hid (ts.length ≤ 200001) := h0.tl
  simp only [P] at hP
  have HP : Hid (_ = some r) := hP
  clear hP
  simp only [Ctr, ptr]
  have t0 := Tr.refl F w
  have HF0 : Hid (∀ k ∈ F, k < w.heap.size) := fun k hk => (h0.fb k hk).2
  have HN : Hid (ns.length ≤ 2 * i + 1) := hn
  clear hn
  have q1 := hT.more hi hp
  have C1 := pass_any h0 q1
  unfold tokA at C1
  go_enter Tryz.func23, Tryz.ntmps23
  go_wp2_with fail
  refine C1.mono ?_
  rintro e w1 ⟨rfl, h1, f1⟩
  clear C1
  have s1 := Tr.of f1
  have t1 := t0.trans s1
  have T1 := h0.tabs T0 f1
  have h1 : PS ts B pb F (i + 1) ns w1 := h1
  have q1 : i + 1 < ts.length := q1
  have fl1 := fld2 ((tk ts (i)).kind : Nat) ((tk ts (i)).frm : Nat) ((tk ts (i)).to : Nat) ((tk ts (i)).n : Nat) ⟨(tk ts (i)).text.toArray⟩ w1
  rcases bindR_some HP.out with ⟨er, hr, he⟩ | ⟨v2, j2, n2, hr, hP⟩
  · subst he
    have C2 := H f (.expr) _ _ w1 _ _ (Nat.le_refl _) h1 T1 trivial (by have := HN.out; omega) hr
    simp only [Ctr, ptr] at C2
    go_wp2_with fail
    refine C2.mono ?_
    rintro e w2 ⟨rfl, f2⟩
    exact ⟨rfl, rfl, t1.ends f2⟩
  obtain ⟨o2a, o2b, o2c, o2d, o2e⟩ := run_ok hT (nt := .expr) (ns := ns) h1.ti trivial hr
  simp only [consN, slack] at o2a o2d
  obtain ⟨m2, rfl, hm2⟩ := o2e rfl
  have C2 := H f (.expr) _ _ w1 _ _ (Nat.le_refl _) h1 T1 trivial (by have := HN.out; omega) hr
  simp only [Ctr, ptr] at C2
  have HP : Hid (_ = some r) := hP
  have B2 : Hid (n2.length + 1 ≤ 2 * j2 + 0 ∧ i < j2) := by have := HN.out; unfold Hid; omega
  have q2 := o2b
  clear hP hr o2a o2b o2c o2d o2e
  go_wp2_with fail
  refine C2.mono ?_
  rintro e w2 ⟨he, F2, h2, s2⟩
  obtain rfl : e = .returned (.int .i64 (m2 : Nat)) := he
  clear C2
  have f2 := s2.f
  have t2 := t1.trans s2
  have T2 := h1.tabs T1 f2
  rcases bindR_some HP.out with ⟨er, hr, he⟩ | ⟨v3, j3, n3, hr, hP⟩
  · subst he
    have C3 := H f (.block 0) _ _ w2 _ _ (Nat.le_refl _) h2 T2 trivial (by have := B2.out; omega) hr
    simp only [Ctr, ptr] at C3
    go_wp2_with fail
    refine C3.mono ?_
    rintro e w3 ⟨rfl, f3⟩
    exact ⟨rfl, rfl, t2.ends f3⟩
  obtain ⟨o3a, o3b, o3c, o3d, o3e⟩ := run_ok hT (nt := .block 0) (ns := n2) h2.ti trivial hr
  simp only [consN, slack] at o3a o3d
  obtain ⟨m3, rfl, hm3⟩ := o3e rfl
  have C3 := H f (.block 0) _ _ w2 _ _ (Nat.le_refl _) h2 T2 trivial (by have := B2.out; omega) hr
  simp only [Ctr, ptr] at C3
  have HP : Hid (_ = some r) := hP
  have B3 : Hid (n3.length + 1 ≤ 2 * j3 + 0 ∧ i < j3) := by have := B2.out; unfold Hid; omega
  have q3 := o3b
  clear hP hr o3a o3b o3c o3d o3e
  go_wp2_with fail
  refine C3.mono ?_
  rintro e w3 ⟨he, F3, h3, s3⟩
  obtain rfl : e = .returned (.int .i64 (m3 : Nat)) := he
  clear C3
  have f3 := s3.f
  have t3 := t2.trans s3
  have T3 := h2.tabs T2 f3
  rcases bindR_some HP.out with ⟨er, hr, he⟩ | ⟨v4, j4, n4, hr, hP⟩
  · subst he
    have C4 := H f (.other) _ _ w3 _ _ (Nat.le_refl _) h3 T3 trivial (by have := B3.out; omega) hr
    simp only [Ctr, ptr] at C4
    go_wp2_with fail
    refine C4.mono ?_
    rintro e w4 ⟨rfl, f4⟩
    exact ⟨rfl, rfl, t3.ends f4⟩
  obtain ⟨o4a, o4b, o4c, o4d, o4e⟩ := run_ok hT (nt := .other) (ns := n3) h3.ti trivial hr
  simp only [consN, slack] at o4a o4d
  obtain ⟨m4, rfl, hm4⟩ := o4e rfl
  have C4 := H f (.other) _ _ w3 _ _ (Nat.le_refl _) h3 T3 trivial (by have := B3.out; omega) hr
  simp only [Ctr, ptr] at C4
  have HP : Hid (_ = some r) := hP
  have B4 : Hid (n4.length + 0 ≤ 2 * j4 + 0 ∧ i < j4) := by have := B3.out; unfold Hid; omega
  have q4 := o4b
  clear hP hr o4a o4b o4c o4d o4e
  go_wp2_with fail
  refine C4.mono ?_
  rintro e w4 ⟨he, F4, h4, s4⟩
  obtain rfl : e = .returned (.int .i64 (m4 : Nat)) := he
  clear C4
  have f4 := s4.f
  have t4 := t3.trans s4
  have T4 := h3.tabs T3 f4
  have hP := HP.out
  cases hP
  have gb : Fr [] w4 (w4.alloc (.cells #[.int .i64 (m2 : Nat), .int .i64 (m3 : Nat), .int .i64 (m4 : Nat)] 3)) := (Fr.refl _ _).alloc _
  have ob : ON (w4.alloc (.cells #[.int .i64 (m2 : Nat), .int .i64 (m3 : Nat), .int .i64 (m4 : Nat)] 3)) B (.slice (some ⟨w4.heap.size, 0, none⟩) 3 3) [m2, m3, m4] := ON.built w4 B (by have := h4.fb pb h4.pf; omega) [m2, m3, m4] (by simp)
  have KV0 := ON.kv ob
  have LO : ∀ k ∈ (Value.slice (some ⟨w4.heap.size, 0, none⟩) 3 3).ownBlock.toList, w.heap.size ≤ k := fun k hk => by rw [own_mem hk]; exact t4.f.size
  have hb := h4.fr gb (by simp)
  have tb := t4.trans (Tr.of0 gb)
  have CL := lay_any hb KV0 7 [] (tk ts (i)).frm (by have := B4.out; have := HTL.out; have := q4; omega)
  go_wp2_with fail
  refine CL.mono ?_
  rintro e wz ⟨rfl, Fz, hz, fz, sz⟩
  have tz : Tr F w Fz wz := lay_tr tb fz sz LO
  go_wp2
  go_ret
  exact ⟨rfl, Fz, hz, tz⟩

set_option maxRecDepth 100000 in
set_option maxHeartbeats 2000000 in
theorem c_whileS {ts : List Tok} {B pb : Nat} (hT : Toks ts) {f i : Nat} {ns : List PN} {w : World} {F : List Nat} {r : Except Nat (List Nat × Nat × List PN)} (H : Hyp ts B pb f) (h0 : PS ts B pb F i ns w) (T0 : Tabs w) (hp : preN ts i ns (.whileS)) (hn : ns.length ≤ 2 * i + 1) (hP : P ts (f + 1) (.whileS) i ns = some r) : Ctr ts B pb F w r (.whileS) := by
  have hi := h0.ti
  have HTL : Hid (ts.length ≤ 200001) := h0.tl
  simp only [P] at hP
  have HP : Hid (_ = some r) := hP
  clear hP
  simp only [Ctr, ptr]
  have t0 := Tr.refl F w
  have HF0 : Hid (∀ k ∈ F, k < w.heap.size) := fun k hk => (h0.fb k hk).2
  have HN : Hid (ns.length ≤ 2 * i + 1) := hn
  clear hn
  have q1 := hT.more hi hp
  have C1 := pass_any h0 q1
  unfold tokA at C1
  go_enter Tryz.func24, Tryz.ntmps24
  go_wp2_with fail
  refine C1.mono ?_
  rintro e w1 ⟨rfl, h1, f1⟩
  clear C1
  have s1 := Tr.of f1
  have t1 := t0.trans s1
  have T1 := h0.tabs T0 f1
  have h1 : PS ts B pb F (i + 1) ns w1 := h1
  have q1 : i + 1 < ts.length := q1
  have fl1 := fld2 ((tk ts (i)).kind : Nat) ((tk ts (i)).frm : Nat) ((tk ts (i)).to : Nat) ((tk ts (i)).n : Nat) ⟨(tk ts (i)).text.toArray⟩ w1
  rcases bindR_some HP.out with ⟨er, hr, he⟩ | ⟨v2, j2, n2, hr, hP⟩
  · subst he
    have C2 := H f (.expr) _ _ w1 _ _ (Nat.le_refl _) h1 T1 trivial (by have := HN.out; omega) hr
    simp only [Ctr, ptr] at C2
    go_wp2_with fail
    refine C2.mono ?_
    rintro e w2 ⟨rfl, f2⟩
    exact ⟨rfl, rfl, t1.ends f2⟩
  obtain ⟨o2a, o2b, o2c, o2d, o2e⟩ := run_ok hT (nt := .expr) (ns := ns) h1.ti trivial hr
  simp only [consN, slack] at o2a o2d
  obtain ⟨m2, rfl, hm2⟩ := o2e rfl
  have C2 := H f (.expr) _ _ w1 _ _ (Nat.le_refl _) h1 T1 trivial (by have := HN.out; omega) hr
  simp only [Ctr, ptr] at C2
  have HP : Hid (_ = some r) := hP
  have B2 : Hid (n2.length + 1 ≤ 2 * j2 + 0 ∧ i < j2) := by have := HN.out; unfold Hid; omega
  have q2 := o2b
  clear hP hr o2a o2b o2c o2d o2e
  go_wp2_with fail
  refine C2.mono ?_
  rintro e w2 ⟨he, F2, h2, s2⟩
  obtain rfl : e = .returned (.int .i64 (m2 : Nat)) := he
  clear C2
  have f2 := s2.f
  have t2 := t1.trans s2
  have T2 := h1.tabs T1 f2
  rcases bindR_some HP.out with ⟨er, hr, he⟩ | ⟨v3, j3, n3, hr, hP⟩
  · subst he
    have C3 := H f (.block 0) _ _ w2 _ _ (Nat.le_refl _) h2 T2 trivial (by have := B2.out; omega) hr
    simp only [Ctr, ptr] at C3
    go_wp2_with fail
    refine C3.mono ?_
    rintro e w3 ⟨rfl, f3⟩
    exact ⟨rfl, rfl, t2.ends f3⟩
  obtain ⟨o3a, o3b, o3c, o3d, o3e⟩ := run_ok hT (nt := .block 0) (ns := n2) h2.ti trivial hr
  simp only [consN, slack] at o3a o3d
  obtain ⟨m3, rfl, hm3⟩ := o3e rfl
  have C3 := H f (.block 0) _ _ w2 _ _ (Nat.le_refl _) h2 T2 trivial (by have := B2.out; omega) hr
  simp only [Ctr, ptr] at C3
  have HP : Hid (_ = some r) := hP
  have B3 : Hid (n3.length + 1 ≤ 2 * j3 + 0 ∧ i < j3) := by have := B2.out; unfold Hid; omega
  have q3 := o3b
  clear hP hr o3a o3b o3c o3d o3e
  go_wp2_with fail
  refine C3.mono ?_
  rintro e w3 ⟨he, F3, h3, s3⟩
  obtain rfl : e = .returned (.int .i64 (m3 : Nat)) := he
  clear C3
  have f3 := s3.f
  have t3 := t2.trans s3
  have T3 := h2.tabs T2 f3
  have hP := HP.out
  cases hP
  have gb : Fr [] w3 (w3.alloc (.cells #[.int .i64 (m2 : Nat), .int .i64 (m3 : Nat)] 3)) := (Fr.refl _ _).alloc _
  have ob : ON (w3.alloc (.cells #[.int .i64 (m2 : Nat), .int .i64 (m3 : Nat)] 3)) B (.slice (some ⟨w3.heap.size, 0, none⟩) 2 2) [m2, m3] := ON.built w3 B (by have := h3.fb pb h3.pf; omega) [m2, m3] (by simp)
  have KV0 := ON.kv ob
  have LO : ∀ k ∈ (Value.slice (some ⟨w3.heap.size, 0, none⟩) 2 2).ownBlock.toList, w.heap.size ≤ k := fun k hk => by rw [own_mem hk]; exact t3.f.size
  have hb := h3.fr gb (by simp)
  have tb := t3.trans (Tr.of0 gb)
  have CL := lay_any hb KV0 8 [] (tk ts (i)).frm (by have := B3.out; have := HTL.out; have := q3; omega)
  go_wp2_with fail
  refine CL.mono ?_
  rintro e wz ⟨rfl, Fz, hz, fz, sz⟩
  have tz : Tr F w Fz wz := lay_tr tb fz sz LO
  go_wp2
  go_ret
  exact ⟨rfl, Fz, hz, tz⟩

set_option maxRecDepth 100000 in
set_option maxHeartbeats 2000000 in
theorem c_worded {ts : List Tok} {B pb : Nat} (hT : Toks ts) {f i kk : Nat} {ns : List PN} {w : World} {F : List Nat} {r : Except Nat (List Nat × Nat × List PN)} (H : Hyp ts B pb f) (h0 : PS ts B pb F i ns w) (T0 : Tabs w) (hp : preN ts i ns (.worded kk)) (hn : ns.length ≤ 2 * i + 1) (hP : P ts (f + 1) (.worded kk) i ns = some r) : Ctr ts B pb F w r (.worded kk) := by
  have hi := h0.ti
  have HTL : Hid (ts.length ≤ 200001) := h0.tl
  simp only [P] at hP
  have HP : Hid (_ = some r) := hP
  clear hP
  simp only [Ctr, ptr]
  have t0 := Tr.refl F w
  have HF0 : Hid (∀ k ∈ F, k < w.heap.size) := fun k hk => (h0.fb k hk).2
  have HN : Hid (ns.length ≤ 2 * i + 1) := hn
  clear hn
  have q1 := hT.more hi hp
  have C1 := pass_any h0 q1
  unfold tokA at C1
  go_enter Tryz.func59, Tryz.ntmps59
  go_wp2_with fail
  refine C1.mono ?_
  rintro e w1 ⟨rfl, h1, f1⟩
  clear C1
  have s1 := Tr.of f1
  have t1 := t0.trans s1
  have T1 := h0.tabs T0 f1
  have h1 : PS ts B pb F (i + 1) ns w1 := h1
  have q1 : i + 1 < ts.length := q1
  have fl1 := fld2 ((tk ts (i)).kind : Nat) ((tk ts (i)).frm : Nat) ((tk ts (i)).to : Nat) ((tk ts (i)).n : Nat) ⟨(tk ts (i)).text.toArray⟩ w1
  rcases bindR_some HP.out with ⟨er, hr, he⟩ | ⟨v2, j2, n2, hr, hP⟩
  · subst he
    have C2 := H f (.expr) _ _ w1 _ _ (Nat.le_refl _) h1 T1 trivial (by have := HN.out; omega) hr
    simp only [Ctr, ptr] at C2
    go_wp2_with fail
    refine C2.mono ?_
    rintro e w2 ⟨rfl, f2⟩
    exact ⟨rfl, rfl, t1.ends f2⟩
  obtain ⟨o2a, o2b, o2c, o2d, o2e⟩ := run_ok hT (nt := .expr) (ns := ns) h1.ti trivial hr
  simp only [consN, slack] at o2a o2d
  obtain ⟨m2, rfl, hm2⟩ := o2e rfl
  have C2 := H f (.expr) _ _ w1 _ _ (Nat.le_refl _) h1 T1 trivial (by have := HN.out; omega) hr
  simp only [Ctr, ptr] at C2
  have HP : Hid (_ = some r) := hP
  have B2 : Hid (n2.length + 1 ≤ 2 * j2 + 0 ∧ i < j2) := by have := HN.out; unfold Hid; omega
  have q2 := o2b
  clear hP hr o2a o2b o2c o2d o2e
  go_wp2_with fail
  refine C2.mono ?_
  rintro e w2 ⟨he, F2, h2, s2⟩
  obtain rfl : e = .returned (.int .i64 (m2 : Nat)) := he
  clear C2
  have f2 := s2.f
  have t2 := t1.trans s2
  have T2 := h1.tabs T1 f2
  by_cases e3 : nx ts (j2) = [59]
  rotate_left
  · have hP := HP.out
    rw [wantR_no e3] at hP
    have C3 := want_no h2 [59] e3
    unfold thrown at C3
    cases hP
    go_wp2_with fail
    refine C3.mono ?_
    rintro e w3 ⟨rfl, f3⟩
    exact ⟨rfl, rfl, t2.ends (f3.sub (by simp))⟩
  have q3 := hT.more q2 (show nx ts (j2) ≠ [] by rw [e3]; decide)
  have hP := HP.out
  rw [wantR_yes e3] at hP
  have HP : Hid (_ = some r) := hP
  clear hP
  have C3 := want_yes h2 [59] e3 q3
  unfold tokA at C3
  clear e3
  go_wp2_with fail
  refine C3.mono ?_
  rintro e w3 ⟨rfl, h3, f3⟩
  clear C3
  have s3 := Tr.of f3
  have t3 := t2.trans s3
  have T3 := h2.tabs T2 f3
  have h3 : PS ts B pb F2 (j2 + 1) n2 w3 := h3
  have q3 : j2 + 1 < ts.length := q3
  have hP := HP.out
  cases hP
  have gb : Fr [] w3 (w3.alloc (.cells #[.int .i64 (m2 : Nat)] 3)) := (Fr.refl _ _).alloc _
  have ob : ON (w3.alloc (.cells #[.int .i64 (m2 : Nat)] 3)) B (.slice (some ⟨w3.heap.size, 0, none⟩) 1 1) [m2] := ON.built w3 B (by have := h3.fb pb h3.pf; omega) [m2] (by simp)
  have KV0 := ON.kv ob
  have LO : ∀ k ∈ (Value.slice (some ⟨w3.heap.size, 0, none⟩) 1 1).ownBlock.toList, w.heap.size ≤ k := fun k hk => by rw [own_mem hk]; exact t3.f.size
  have hb := h3.fr gb (by simp)
  have tb := t3.trans (Tr.of0 gb)
  have CL := lay_any hb KV0 kk [] (tk ts (i)).frm (by have := B2.out; have := HTL.out; have := q3; omega)
  go_wp2_with fail
  refine CL.mono ?_
  rintro e wz ⟨rfl, Fz, hz, fz, sz⟩
  have tz : Tr F w Fz wz := lay_tr tb fz sz LO
  go_wp2
  go_ret
  exact ⟨rfl, Fz, hz, tz⟩

set_option maxRecDepth 100000 in
set_option maxHeartbeats 2000000 in
theorem c_merge {ts : List Tok} {B pb : Nat} (hT : Toks ts) {f i : Nat} {ns : List PN} {w : World} {F : List Nat} {r : Except Nat (List Nat × Nat × List PN)} (H : Hyp ts B pb f) (h0 : PS ts B pb F i ns w) (T0 : Tabs w) (hp : preN ts i ns (.merge)) (hn : ns.length ≤ 2 * i + 1) (hP : P ts (f + 1) (.merge) i ns = some r) : Ctr ts B pb F w r (.merge) := by
  have hi := h0.ti
  have HTL : Hid (ts.length ≤ 200001) := h0.tl
  simp only [P] at hP
  have HP : Hid (_ = some r) := hP
  clear hP
  simp only [Ctr, ptr]
  have t0 := Tr.refl F w
  have HF0 : Hid (∀ k ∈ F, k < w.heap.size) := fun k hk => (h0.fb k hk).2
  have HN : Hid (ns.length ≤ 2 * i + 1) := hn
  clear hn
  have q1 := hT.more hi hp
  have C1 := pass_any h0 q1
  unfold tokA at C1
  go_enter Tryz.func28, Tryz.ntmps28
  go_wp2_with fail
  refine C1.mono ?_
  rintro e w1 ⟨rfl, h1, f1⟩
  clear C1
  have s1 := Tr.of f1
  have t1 := t0.trans s1
  have T1 := h0.tabs T0 f1
  have h1 : PS ts B pb F (i + 1) ns w1 := h1
  have q1 : i + 1 < ts.length := q1
  have fl1 := fld2 ((tk ts (i)).kind : Nat) ((tk ts (i)).frm : Nat) ((tk ts (i)).to : Nat) ((tk ts (i)).n : Nat) ⟨(tk ts (i)).text.toArray⟩ w1
  by_cases e2 : nx ts (i + 1) = [40]
  rotate_left
  · have hP := HP.out
    rw [wantR_no e2] at hP
    have C2 := want_no h1 [40] e2
    unfold thrown at C2
    cases hP
    go_wp2_with fail
    refine C2.mono ?_
    rintro e w2 ⟨rfl, f2⟩
    exact ⟨rfl, rfl, t1.ends (f2.sub (by simp))⟩
  have q2 := hT.more q1 (show nx ts (i + 1) ≠ [] by rw [e2]; decide)
  have hP := HP.out
  rw [wantR_yes e2] at hP
  have HP : Hid (_ = some r) := hP
  clear hP
  have C2 := want_yes h1 [40] e2 q2
  unfold tokA at C2
  clear e2
  go_wp2_with fail
  refine C2.mono ?_
  rintro e w2 ⟨rfl, h2, f2⟩
  clear C2
  have s2 := Tr.of f2
  have t2 := t1.trans s2
  have T2 := h1.tabs T1 f2
  have h2 : PS ts B pb F (i + 2) ns w2 := h2
  have q2 : i + 2 < ts.length := q2
  rcases bindR_some HP.out with ⟨er, hr, he⟩ | ⟨v3, j3, n3, hr, hP⟩
  · subst he
    have C3 := H f (.listed false [41]) _ _ w2 _ _ (Nat.le_refl _) h2 T2 (by simp [preN]) (by have := HN.out; omega) hr
    simp only [Ctr, ptr, if_true, Bool.false_eq_true, if_false] at C3
    go_wp2_with fail
    refine C3.mono ?_
    rintro e w3 ⟨rfl, f3⟩
    exact ⟨rfl, rfl, t2.ends f3⟩
  obtain ⟨o3a, o3b, o3c, o3d, _⟩ := run_ok hT (nt := .listed false [41]) (ns := ns) h2.ti (by simp [preN]) hr
  simp only [consN, slack] at o3a o3d
  have C3 := H f (.listed false [41]) _ _ w2 _ _ (Nat.le_refl _) h2 T2 (by simp [preN]) (by have := HN.out; omega) hr
  simp only [Ctr, ptr, if_true, Bool.false_eq_true, if_false] at C3
  have HP : Hid (_ = some r) := hP
  have B3 : Hid (n3.length + 3 ≤ 2 * j3 + 0 ∧ i < j3) := by have := HN.out; unfold Hid; omega
  have q3 := o3b
  clear hP hr o3a o3b o3c o3d
  go_wp2_with fail
  refine C3.mono ?_
  rintro e w3 ⟨x3, F3, rfl, o3, y3, h3, s3⟩
  clear C3
  have f3 := s3.f
  have z3 : Hid (∀ k, (x3 : Value).ownBlock = some k → w.heap.size ≤ k) := fun k hk => Nat.le_trans t2.f.size (y3 k hk).2
  have ny3 : ∀ k, (x3 : Value).ownBlock = some k → k ∉ F3 := fun k hk => (y3 k hk).1
  clear y3
  have t3 := t2.trans s3
  have T3 := h2.tabs T2 f3
  by_cases e4 : nx ts (j3) = [59]
  rotate_left
  · have hP := HP.out
    rw [wantR_no e4] at hP
    have C4 := want_no h3 [59] e4
    unfold thrown at C4
    cases hP
    go_wp2_with fail
    refine C4.mono ?_
    rintro e w4 ⟨rfl, f4⟩
    exact ⟨rfl, rfl, t3.ends (f4.sub (by simp))⟩
  have q4 := hT.more q3 (show nx ts (j3) ≠ [] by rw [e4]; decide)
  have hP := HP.out
  rw [wantR_yes e4] at hP
  have HP : Hid (_ = some r) := hP
  clear hP
  have C4 := want_yes h3 [59] e4 q4
  unfold tokA at C4
  clear e4
  go_wp2_with fail
  refine C4.mono ?_
  rintro e w4 ⟨rfl, h4, f4⟩
  clear C4
  have s4 := Tr.of f4
  have t4 := t3.trans s4
  have T4 := h3.tabs T3 f4
  have o0_4 := own_fr o3 f4 (fun k hk => ny3 k hk)
  have oi0_4 : ∀ k, (x3).ownBlock = some k → k ∉ F3 := fun k hk => Tr.notin s4 (ny3 k hk) (o3.lt k hk).2
  have h4 : PS ts B pb F3 (j3 + 1) n3 w4 := h4
  have q4 : j3 + 1 < ts.length := q4
  have hP := HP.out
  cases hP
  obtain ⟨xa, xc, hx, _⟩ := own_slice o0_4
  have KV0 := ON.kv o0_4
  have LO : ∀ k ∈ (x3).ownBlock.toList, w.heap.size ≤ k := fun k hk => z3.out k (by simpa using hk)
  subst hx
  have CL := lay_any h4 KV0 13 [] (tk ts (i)).frm (by have := B3.out; have := HTL.out; have := q4; omega)
  go_wp2_with fail
  refine CL.mono ?_
  rintro e wz ⟨rfl, Fz, hz, fz, sz⟩
  have tz : Tr F w Fz wz := lay_tr t4 fz sz LO
  go_wp2
  go_ret
  exact ⟨rfl, Fz, hz, tz⟩

set_option maxRecDepth 100000 in
set_option maxHeartbeats 2000000 in
theorem c_setS {ts : List Tok} {B pb : Nat} (hT : Toks ts) {f i pp : Nat} {ns : List PN} {w : World} {F : List Nat} {r : Except Nat (List Nat × Nat × List PN)} (H : Hyp ts B pb f) (h0 : PS ts B pb F i ns w) (T0 : Tabs w) (hp : preN ts i ns (.setS pp)) (hn : ns.length ≤ 2 * i + 1) (hP : P ts (f + 1) (.setS pp) i ns = some r) : Ctr ts B pb F w r (.setS pp) := by
  have hi := h0.ti
  have HTL : Hid (ts.length ≤ 200001) := h0.tl
  simp only [P] at hP
  have HP : Hid (_ = some r) := hP
  clear hP
  simp only [Ctr, ptr]
  have t0 := Tr.refl F w
  have HF0 : Hid (∀ k ∈ F, k < w.heap.size) := fun k hk => (h0.fb k hk).2
  have HN : Hid (ns.length ≤ 2 * i + 1) := hn
  clear hn
  have q1 := hT.more hi hp
  have C1 := pass_any h0 q1
  unfold tokA at C1
  go_enter Tryz.func92, Tryz.ntmps92
  go_wp2_with fail
  refine C1.mono ?_
  rintro e w1 ⟨rfl, h1, f1⟩
  clear C1
  have s1 := Tr.of f1
  have t1 := t0.trans s1
  have T1 := h0.tabs T0 f1
  have h1 : PS ts B pb F (i + 1) ns w1 := h1
  have q1 : i + 1 < ts.length := q1
  have fl1 := fld2 ((tk ts (i)).kind : Nat) ((tk ts (i)).frm : Nat) ((tk ts (i)).to : Nat) ((tk ts (i)).n : Nat) ⟨(tk ts (i)).text.toArray⟩ w1
  rcases bindR_some HP.out with ⟨er, hr, he⟩ | ⟨v2, j2, n2, hr, hP⟩
  · subst he
    have C2 := H f (.expr) _ _ w1 _ _ (Nat.le_refl _) h1 T1 trivial (by have := HN.out; omega) hr
    simp only [Ctr, ptr] at C2
    go_wp2_with fail
    refine C2.mono ?_
    rintro e w2 ⟨rfl, f2⟩
    exact ⟨rfl, rfl, t1.ends f2⟩
  obtain ⟨o2a, o2b, o2c, o2d, o2e⟩ := run_ok hT (nt := .expr) (ns := ns) h1.ti trivial hr
  simp only [consN, slack] at o2a o2d
  obtain ⟨m2, rfl, hm2⟩ := o2e rfl
  have C2 := H f (.expr) _ _ w1 _ _ (Nat.le_refl _) h1 T1 trivial (by have := HN.out; omega) hr
  simp only [Ctr, ptr] at C2
  have HP : Hid (_ = some r) := hP
  have B2 : Hid (n2.length + 1 ≤ 2 * j2 + 0 ∧ i < j2) := by have := HN.out; unfold Hid; omega
  have q2 := o2b
  clear hP hr o2a o2b o2c o2d o2e
  go_wp2_with fail
  refine C2.mono ?_
  rintro e w2 ⟨he, F2, h2, s2⟩
  obtain rfl : e = .returned (.int .i64 (m2 : Nat)) := he
  clear C2
  have f2 := s2.f
  have t2 := t1.trans s2
  have T2 := h1.tabs T1 f2
  by_cases e3 : nx ts (j2) = [59]
  rotate_left
  · have hP := HP.out
    rw [wantR_no e3] at hP
    have C3 := want_no h2 [59] e3
    unfold thrown at C3
    cases hP
    go_wp2_with fail
    refine C3.mono ?_
    rintro e w3 ⟨rfl, f3⟩
    exact ⟨rfl, rfl, t2.ends (f3.sub (by simp))⟩
  have q3 := hT.more q2 (show nx ts (j2) ≠ [] by rw [e3]; decide)
  have hP := HP.out
  rw [wantR_yes e3] at hP
  have HP : Hid (_ = some r) := hP
  clear hP
  have C3 := want_yes h2 [59] e3 q3
  unfold tokA at C3
  clear e3
  go_wp2_with fail
  refine C3.mono ?_
  rintro e w3 ⟨rfl, h3, f3⟩
  clear C3
  have s3 := Tr.of f3
  have t3 := t2.trans s3
  have T3 := h2.tabs T2 f3
  have h3 : PS ts B pb F2 (j2 + 1) n2 w3 := h3
  have q3 : j2 + 1 < ts.length := q3
  have hP := HP.out
  cases hP
  have gb : Fr [] w3 (w3.alloc (.cells #[.int .i64 (pp : Nat), .int .i64 (m2 : Nat)] 3)) := (Fr.refl _ _).alloc _
  have ob : ON (w3.alloc (.cells #[.int .i64 (pp : Nat), .int .i64 (m2 : Nat)] 3)) B (.slice (some ⟨w3.heap.size, 0, none⟩) 2 2) [pp, m2] := ON.built w3 B (by have := h3.fb pb h3.pf; omega) [pp, m2] (by simp)
  have KV0 := ON.kv ob
  have LO : ∀ k ∈ (Value.slice (some ⟨w3.heap.size, 0, none⟩) 2 2).ownBlock.toList, w.heap.size ≤ k := fun k hk => by rw [own_mem hk]; exact t3.f.size
  have hb := h3.fr gb (by simp)
  have tb := t3.trans (Tr.of0 gb)
  have CL := lay_any hb KV0 6 [] (tk ts (i)).frm (by have := B2.out; have := HTL.out; have := q3; omega)
  go_wp2_with fail
  refine CL.mono ?_
  rintro e wz ⟨rfl, Fz, hz, fz, sz⟩
  have tz : Tr F w Fz wz := lay_tr tb fz sz LO
  go_wp2
  go_ret
  exact ⟨rfl, Fz, hz, tz⟩

set_option maxRecDepth 100000 in
set_option maxHeartbeats 2000000 in
theorem c_joined {ts : List Tok} {B pb : Nat} (hT : Toks ts) {f i ll line : Nat} {ns : List PN} {w : World} {F : List Nat} {r : Except Nat (List Nat × Nat × List PN)} (H : Hyp ts B pb f) (h0 : PS ts B pb F i ns w) (T0 : Tabs w) (hp : preN ts i ns (.joined ll line)) (hn : ns.length ≤ 2 * i + 1) (hP : P ts (f + 1) (.joined ll line) i ns = some r) : Ctr ts B pb F w r (.joined ll line) := by
  have hi := h0.ti
  have HTL : Hid (ts.length ≤ 200001) := h0.tl
  simp only [P] at hP
  have HP : Hid (_ = some r) := hP
  clear hP
  simp only [Ctr, ptr]
  have t0 := Tr.refl F w
  have HF0 : Hid (∀ k ∈ F, k < w.heap.size) := fun k hk => (h0.fb k hk).2
  have HN : Hid (ns.length ≤ 2 * i + 1) := hn
  clear hn
  have q1 := hT.more hi hp.1
  have C1 := pass_any h0 q1
  unfold tokA at C1
  go_enter Tryz.func74, Tryz.ntmps74
  go_wp2_with fail
  refine C1.mono ?_
  rintro e w1 ⟨rfl, h1, f1⟩
  clear C1
  have s1 := Tr.of f1
  have t1 := t0.trans s1
  have T1 := h0.tabs T0 f1
  have h1 : PS ts B pb F (i + 1) ns w1 := h1
  have q1 : i + 1 < ts.length := q1
  have g2 : Fr [] w1 (w1.alloc (.cells #[.int .i64 ((tk ts (i)).kind : Nat), .string ⟨(tk ts (i)).text.toArray⟩, .int .i64 ((tk ts (i)).frm : Nat), .int .i64 ((tk ts (i)).to : Nat), .int .i64 ((tk ts (i)).n : Nat)] 43)) := (Fr.refl _ _).alloc _
  have v2 := TB.new w1 (.int .i64 ((tk ts (i)).kind : Nat)) (.string ⟨(tk ts (i)).text.toArray⟩) (.int .i64 ((tk ts (i)).frm : Nat)) (.int .i64 ((tk ts (i)).to : Nat)) (.int .i64 ((tk ts (i)).n : Nat))
  have ni2 : w1.heap.size ∉ F := fun hm => by have := (h1.fb _ hm).2; omega
  have h2 := h1.fr g2 (by simp)
  have t2 := t1.trans (Tr.of0 g2)
  have T2 := T1.fr g2 (by simp)
  rcases bindR_some HP.out with ⟨er, hr, he⟩ | ⟨v3, j3, n3, hr, hP⟩
  · subst he
    have C3 := H f (.chain line) _ _ (w1.alloc (.cells #[.int .i64 ((tk ts (i)).kind : Nat), .string ⟨(tk ts (i)).text.toArray⟩, .int .i64 ((tk ts (i)).frm : Nat), .int .i64 ((tk ts (i)).to : Nat), .int .i64 ((tk ts (i)).n : Nat)] 43)) _ _ (Nat.le_refl _) h2 T2 hp.2 (by have := HN.out; omega) hr
    simp only [Ctr, ptr] at C3
    go_wp2_with fail
    refine C3.mono ?_
    rintro e w3 ⟨rfl, f3⟩
    exact ⟨rfl, rfl, t2.ends f3⟩
  obtain ⟨o3a, o3b, o3c, o3d, o3e⟩ := run_ok hT (nt := .chain line) (ns := ns) h2.ti hp.2 hr
  simp only [consN, slack] at o3a o3d
  obtain ⟨m3, rfl, hm3⟩ := o3e rfl
  have C3 := H f (.chain line) _ _ (w1.alloc (.cells #[.int .i64 ((tk ts (i)).kind : Nat), .string ⟨(tk ts (i)).text.toArray⟩, .int .i64 ((tk ts (i)).frm : Nat), .int .i64 ((tk ts (i)).to : Nat), .int .i64 ((tk ts (i)).n : Nat)] 43)) _ _ (Nat.le_refl _) h2 T2 hp.2 (by have := HN.out; omega) hr
  simp only [Ctr, ptr] at C3
  have HP : Hid (_ = some r) := hP
  have B3 : Hid (n3.length + 1 ≤ 2 * j3 + 0 ∧ i < j3) := by have := HN.out; unfold Hid; omega
  have q3 := o3b
  clear hP hr o3a o3b o3c o3d o3e
  go_wp2_with fail
  refine C3.mono ?_
  rintro e w3 ⟨he, F3, h3, s3⟩
  obtain rfl : e = .returned (.int .i64 (m3 : Nat)) := he
  clear C3
  have f3 := s3.f
  have t3 := t2.trans s3
  have T3 := h2.tabs T2 f3
  have u0_3 := v2.fr f3 ni2
  have ni0_3 := Tr.notin s3 ni2 v2.lt
  have hP := HP.out
  cases hP
  have a0 := u0_3.c1
  have b0 := u0_3.c2
  have gb : Fr [] w3 (w3.alloc (.cells #[.int .i64 (ll : Nat), .int .i64 (m3 : Nat)] 3)) := (Fr.refl _ _).alloc _
  have ob : ON (w3.alloc (.cells #[.int .i64 (ll : Nat), .int .i64 (m3 : Nat)] 3)) B (.slice (some ⟨w3.heap.size, 0, none⟩) 2 2) [ll, m3] := ON.built w3 B (by have := h3.fb pb h3.pf; omega) [ll, m3] (by simp)
  have KV0 := ON.kv ob
  have LO : ∀ k ∈ (Value.slice (some ⟨w3.heap.size, 0, none⟩) 2 2).ownBlock.toList, w.heap.size ≤ k := fun k hk => by rw [own_mem hk]; exact t3.f.size
  have hb := h3.fr gb (by simp)
  have tb := t3.trans (Tr.of0 gb)
  have CL := lay_any hb KV0 19 (tk ts (i)).text (tk ts (i)).frm (by have := B3.out; have := HTL.out; have := q3; omega)
  go_wp2_with fail
  refine CL.mono ?_
  rintro e wz ⟨rfl, Fz, hz, fz, sz⟩
  have tz : Tr F w Fz wz := lay_tr tb fz sz LO
  go_wp2
  go_ret
  exact ⟨rfl, Fz, hz, tz⟩

set_option maxRecDepth 100000 in
set_option maxHeartbeats 2000000 in
theorem c_field {ts : List Tok} {B pb : Nat} (hT : Toks ts) {f i nn : Nat} {ns : List PN} {w : World} {F : List Nat} {r : Except Nat (List Nat × Nat × List PN)} (H : Hyp ts B pb f) (h0 : PS ts B pb F i ns w) (T0 : Tabs w) (hp : preN ts i ns (.field nn)) (hn : ns.length ≤ 2 * i + 1) (hP : P ts (f + 1) (.field nn) i ns = some r) : Ctr ts B pb F w r (.field nn) := by
  have hi := h0.ti
  have HTL : Hid (ts.length ≤ 200001) := h0.tl
  simp only [P] at hP
  have HP : Hid (_ = some r) := hP
  clear hP
  simp only [Ctr, ptr]
  have t0 := Tr.refl F w
  have HF0 : Hid (∀ k ∈ F, k < w.heap.size) := fun k hk => (h0.fb k hk).2
  have HN : Hid (ns.length ≤ 2 * i + 1) := hn
  clear hn
  have q1 := hT.more hi hp
  have C1 := pass_any h0 q1
  unfold tokA at C1
  go_enter Tryz.func100, Tryz.ntmps100
  go_wp2_with fail
  refine C1.mono ?_
  rintro e w1 ⟨rfl, h1, f1⟩
  clear C1
  have s1 := Tr.of f1
  have t1 := t0.trans s1
  have T1 := h0.tabs T0 f1
  have h1 : PS ts B pb F (i + 1) ns w1 := h1
  have q1 : i + 1 < ts.length := q1
  have fl1 := fld2 ((tk ts (i)).kind : Nat) ((tk ts (i)).frm : Nat) ((tk ts (i)).to : Nat) ((tk ts (i)).n : Nat) ⟨(tk ts (i)).text.toArray⟩ w1
  by_cases e2 : nx ts (i + 1) = nmB
  rotate_left
  · have hP := HP.out
    rw [wantR_no e2] at hP
    have C2 := want_no h1 nmB e2
    unfold thrown at C2
    unfold nmB at C2
    cases hP
    go_wp2_with fail
    refine C2.mono ?_
    rintro e w2 ⟨rfl, f2⟩
    exact ⟨rfl, rfl, t1.ends (f2.sub (by simp))⟩
  have q2 := hT.more q1 (show nx ts (i + 1) ≠ [] by rw [e2]; decide)
  have hP := HP.out
  rw [wantR_yes e2] at hP
  have HP : Hid (_ = some r) := hP
  clear hP
  have C2 := want_yes h1 nmB e2 q2
  unfold tokA at C2
  unfold nmB at C2
  clear e2
  go_wp2_with fail
  refine C2.mono ?_
  rintro e w2 ⟨rfl, h2, f2⟩
  clear C2
  have s2 := Tr.of f2
  have t2 := t1.trans s2
  have T2 := h1.tabs T1 f2
  have h2 : PS ts B pb F (i + 2) ns w2 := h2
  have q2 : i + 2 < ts.length := q2
  have g3 : Fr [] w2 (w2.alloc (.cells #[.int .i64 ((tk ts (i + 1)).kind : Nat), .string ⟨(tk ts (i + 1)).text.toArray⟩, .int .i64 ((tk ts (i + 1)).frm : Nat), .int .i64 ((tk ts (i + 1)).to : Nat), .int .i64 ((tk ts (i + 1)).n : Nat)] 43)) := (Fr.refl _ _).alloc _
  have v3 := TB.new w2 (.int .i64 ((tk ts (i + 1)).kind : Nat)) (.string ⟨(tk ts (i + 1)).text.toArray⟩) (.int .i64 ((tk ts (i + 1)).frm : Nat)) (.int .i64 ((tk ts (i + 1)).to : Nat)) (.int .i64 ((tk ts (i + 1)).n : Nat))
  have ni3 : w2.heap.size ∉ F := fun hm => by have := (h2.fb _ hm).2; omega
  have h3 := h2.fr g3 (by simp)
  have t3 := t2.trans (Tr.of0 g3)
  have T3 := T2.fr g3 (by simp)
  have hP := HP.out
  cases hP
  have a0 := v3.c1
  have b0 := v3.c2
  have gb : Fr [] (w2.alloc (.cells #[.int .i64 ((tk ts (i + 1)).kind : Nat), .string ⟨(tk ts (i + 1)).text.toArray⟩, .int .i64 ((tk ts (i + 1)).frm : Nat), .int .i64 ((tk ts (i + 1)).to : Nat), .int .i64 ((tk ts (i + 1)).n : Nat)] 43)) ((w2.alloc (.cells #[.int .i64 ((tk ts (i + 1)).kind : Nat), .string ⟨(tk ts (i + 1)).text.toArray⟩, .int .i64 ((tk ts (i + 1)).frm : Nat), .int .i64 ((tk ts (i + 1)).to : Nat), .int .i64 ((tk ts (i + 1)).n : Nat)] 43)).alloc (.cells #[.int .i64 (nn : Nat)] 3)) := (Fr.refl _ _).alloc _
  have ob : ON ((w2.alloc (.cells #[.int .i64 ((tk ts (i + 1)).kind : Nat), .string ⟨(tk ts (i + 1)).text.toArray⟩, .int .i64 ((tk ts (i + 1)).frm : Nat), .int .i64 ((tk ts (i + 1)).to : Nat), .int .i64 ((tk ts (i + 1)).n : Nat)] 43)).alloc (.cells #[.int .i64 (nn : Nat)] 3)) B (.slice (some ⟨(w2.alloc (.cells #[.int .i64 ((tk ts (i + 1)).kind : Nat), .string ⟨(tk ts (i + 1)).text.toArray⟩, .int .i64 ((tk ts (i + 1)).frm : Nat), .int .i64 ((tk ts (i + 1)).to : Nat), .int .i64 ((tk ts (i + 1)).n : Nat)] 43)).heap.size, 0, none⟩) 1 1) [nn] := ON.built (w2.alloc (.cells #[.int .i64 ((tk ts (i + 1)).kind : Nat), .string ⟨(tk ts (i + 1)).text.toArray⟩, .int .i64 ((tk ts (i + 1)).frm : Nat), .int .i64 ((tk ts (i + 1)).to : Nat), .int .i64 ((tk ts (i + 1)).n : Nat)] 43)) B (by have := h3.fb pb h3.pf; omega) [nn] (by simp)
  have KV0 := ON.kv ob
  have LO : ∀ k ∈ (Value.slice (some ⟨(w2.alloc (.cells #[.int .i64 ((tk ts (i + 1)).kind : Nat), .string ⟨(tk ts (i + 1)).text.toArray⟩, .int .i64 ((tk ts (i + 1)).frm : Nat), .int .i64 ((tk ts (i + 1)).to : Nat), .int .i64 ((tk ts (i + 1)).n : Nat)] 43)).heap.size, 0, none⟩) 1 1).ownBlock.toList, w.heap.size ≤ k := fun k hk => by rw [own_mem hk]; exact t3.f.size
  have hb := h3.fr gb (by simp)
  have tb := t3.trans (Tr.of0 gb)
  have CL := lay_any hb KV0 20 (tk ts (i + 1)).text (tk ts (i)).frm (by have := HN.out; have := HTL.out; have := q2; omega)
  simp only [World.size_alloc] at CL
  go_wp2_with fail
  refine CL.mono ?_
  rintro e wz ⟨rfl, Fz, hz, fz, sz⟩
  have sz : ∀ k ∈ Fz, k ∈ F ∨ k ∈ (Value.slice (some ⟨(w2.alloc (.cells #[.int .i64 ((tk ts (i + 1)).kind : Nat), .string ⟨(tk ts (i + 1)).text.toArray⟩, .int .i64 ((tk ts (i + 1)).frm : Nat), .int .i64 ((tk ts (i + 1)).to : Nat), .int .i64 ((tk ts (i + 1)).n : Nat)] 43)).heap.size, 0, none⟩) 1 1).ownBlock.toList ∨ ((w2.alloc (.cells #[.int .i64 ((tk ts (i + 1)).kind : Nat), .string ⟨(tk ts (i + 1)).text.toArray⟩, .int .i64 ((tk ts (i + 1)).frm : Nat), .int .i64 ((tk ts (i + 1)).to : Nat), .int .i64 ((tk ts (i + 1)).n : Nat)] 43)).alloc (.cells #[.int .i64 (nn : Nat)] 3)).heap.size ≤ k := fun k hk => by have := sz k hk; simp only [World.size_alloc]; exact this
  have tz : Tr F w Fz wz := lay_tr tb fz sz LO
  go_wp2
  go_ret
  exact ⟨rfl, Fz, hz, tz⟩

set_option maxRecDepth 100000 in
set_option maxHeartbeats 2000000 in
theorem c_elem {ts : List Tok} {B pb : Nat} (hT : Toks ts) {f i nn : Nat} {ns : List PN} {w : World} {F : List Nat} {r : Except Nat (List Nat × Nat × List PN)} (H : Hyp ts B pb f) (h0 : PS ts B pb F i ns w) (T0 : Tabs w) (hp : preN ts i ns (.elem nn)) (hn : ns.length ≤ 2 * i + 1) (hP : P ts (f + 1) (.elem nn) i ns = some r) : Ctr ts B pb F w r (.elem nn) := by
  have hi := h0.ti
  have HTL : Hid (ts.length ≤ 200001) := h0.tl
  simp only [P] at hP
  have HP : Hid (_ = some r) := hP
  clear hP
  simp only [Ctr, ptr]
  have t0 := Tr.refl F w
  have HF0 : Hid (∀ k ∈ F, k < w.heap.size) := fun k hk => (h0.fb k hk).2
  have HN : Hid (ns.length ≤ 2 * i + 1) := hn
  clear hn
  have q1 := hT.more hi hp
  have C1 := pass_any h0 q1
  unfold tokA at C1
  go_enter Tryz.func101, Tryz.ntmps101
  go_wp2_with fail
  refine C1.mono ?_
  rintro e w1 ⟨rfl, h1, f1⟩
  clear C1
  have s1 := Tr.of f1
  have t1 := t0.trans s1
  have T1 := h0.tabs T0 f1
  have h1 : PS ts B pb F (i + 1) ns w1 := h1
  have q1 : i + 1 < ts.length := q1
  have fl1 := fld2 ((tk ts (i)).kind : Nat) ((tk ts (i)).frm : Nat) ((tk ts (i)).to : Nat) ((tk ts (i)).n : Nat) ⟨(tk ts (i)).text.toArray⟩ w1
  rcases bindR_some HP.out with ⟨er, hr, he⟩ | ⟨v2, j2, n2, hr, hP⟩
  · subst he
    have C2 := H f (.expr) _ _ w1 _ _ (Nat.le_refl _) h1 T1 trivial (by have := HN.out; omega) hr
    simp only [Ctr, ptr] at C2
    go_wp2_with fail
    refine C2.mono ?_
    rintro e w2 ⟨rfl, f2⟩
    exact ⟨rfl, rfl, t1.ends f2⟩
  obtain ⟨o2a, o2b, o2c, o2d, o2e⟩ := run_ok hT (nt := .expr) (ns := ns) h1.ti trivial hr
  simp only [consN, slack] at o2a o2d
  obtain ⟨m2, rfl, hm2⟩ := o2e rfl
  have C2 := H f (.expr) _ _ w1 _ _ (Nat.le_refl _) h1 T1 trivial (by have := HN.out; omega) hr
  simp only [Ctr, ptr] at C2
  have HP : Hid (_ = some r) := hP
  have B2 : Hid (n2.length + 1 ≤ 2 * j2 + 0 ∧ i < j2) := by have := HN.out; unfold Hid; omega
  have q2 := o2b
  clear hP hr o2a o2b o2c o2d o2e
  go_wp2_with fail
  refine C2.mono ?_
  rintro e w2 ⟨he, F2, h2, s2⟩
  obtain rfl : e = .returned (.int .i64 (m2 : Nat)) := he
  clear C2
  have f2 := s2.f
  have t2 := t1.trans s2
  have T2 := h1.tabs T1 f2
  by_cases e3 : nx ts (j2) = [93]
  rotate_left
  · have hP := HP.out
    rw [wantR_no e3] at hP
    have C3 := want_no h2 [93] e3
    unfold thrown at C3
    cases hP
    go_wp2_with fail
    refine C3.mono ?_
    rintro e w3 ⟨rfl, f3⟩
    exact ⟨rfl, rfl, t2.ends (f3.sub (by simp))⟩
  have q3 := hT.more q2 (show nx ts (j2) ≠ [] by rw [e3]; decide)
  have hP := HP.out
  rw [wantR_yes e3] at hP
  have HP : Hid (_ = some r) := hP
  clear hP
  have C3 := want_yes h2 [93] e3 q3
  unfold tokA at C3
  clear e3
  go_wp2_with fail
  refine C3.mono ?_
  rintro e w3 ⟨rfl, h3, f3⟩
  clear C3
  have s3 := Tr.of f3
  have t3 := t2.trans s3
  have T3 := h2.tabs T2 f3
  have h3 : PS ts B pb F2 (j2 + 1) n2 w3 := h3
  have q3 : j2 + 1 < ts.length := q3
  have hP := HP.out
  cases hP
  have gb : Fr [] w3 (w3.alloc (.cells #[.int .i64 (nn : Nat), .int .i64 (m2 : Nat)] 3)) := (Fr.refl _ _).alloc _
  have ob : ON (w3.alloc (.cells #[.int .i64 (nn : Nat), .int .i64 (m2 : Nat)] 3)) B (.slice (some ⟨w3.heap.size, 0, none⟩) 2 2) [nn, m2] := ON.built w3 B (by have := h3.fb pb h3.pf; omega) [nn, m2] (by simp)
  have KV0 := ON.kv ob
  have LO : ∀ k ∈ (Value.slice (some ⟨w3.heap.size, 0, none⟩) 2 2).ownBlock.toList, w.heap.size ≤ k := fun k hk => by rw [own_mem hk]; exact t3.f.size
  have hb := h3.fr gb (by simp)
  have tb := t3.trans (Tr.of0 gb)
  have CL := lay_any hb KV0 21 [] (tk ts (i)).frm (by have := B2.out; have := HTL.out; have := q3; omega)
  go_wp2_with fail
  refine CL.mono ?_
  rintro e wz ⟨rfl, Fz, hz, fz, sz⟩
  have tz : Tr F w Fz wz := lay_tr tb fz sz LO
  go_wp2
  go_ret
  exact ⟨rfl, Fz, hz, tz⟩

set_option maxRecDepth 100000 in
set_option maxHeartbeats 2000000 in
theorem c_made {ts : List Tok} {B pb : Nat} (hT : Toks ts) {f i : Nat} {ns : List PN} {w : World} {F : List Nat} {r : Except Nat (List Nat × Nat × List PN)} (H : Hyp ts B pb f) (h0 : PS ts B pb F i ns w) (T0 : Tabs w) (hp : preN ts i ns (.made)) (hn : ns.length ≤ 2 * i + 1) (hP : P ts (f + 1) (.made) i ns = some r) : Ctr ts B pb F w r (.made) := by
  have hi := h0.ti
  have HTL : Hid (ts.length ≤ 200001) := h0.tl
  simp only [P] at hP
  have HP : Hid (_ = some r) := hP
  clear hP
  simp only [Ctr, ptr]
  have t0 := Tr.refl F w
  have HF0 : Hid (∀ k ∈ F, k < w.heap.size) := fun k hk => (h0.fb k hk).2
  have HN : Hid (ns.length ≤ 2 * i + 1) := hn
  clear hn
  have q1 := hT.more hi hp
  have C1 := pass_any h0 q1
  unfold tokA at C1
  go_enter Tryz.func33, Tryz.ntmps33
  go_wp2_with fail
  refine C1.mono ?_
  rintro e w1 ⟨rfl, h1, f1⟩
  clear C1
  have s1 := Tr.of f1
  have t1 := t0.trans s1
  have T1 := h0.tabs T0 f1
  have h1 : PS ts B pb F (i + 1) ns w1 := h1
  have q1 : i + 1 < ts.length := q1
  have fl1 := fld2 ((tk ts (i)).kind : Nat) ((tk ts (i)).frm : Nat) ((tk ts (i)).to : Nat) ((tk ts (i)).n : Nat) ⟨(tk ts (i)).text.toArray⟩ w1
  by_cases e2 : nx ts (i + 1) = nmB
  rotate_left
  · have hP := HP.out
    rw [wantR_no e2] at hP
    have C2 := want_no h1 nmB e2
    unfold thrown at C2
    unfold nmB at C2
    cases hP
    go_wp2_with fail
    refine C2.mono ?_
    rintro e w2 ⟨rfl, f2⟩
    exact ⟨rfl, rfl, t1.ends (f2.sub (by simp))⟩
  have q2 := hT.more q1 (show nx ts (i + 1) ≠ [] by rw [e2]; decide)
  have hP := HP.out
  rw [wantR_yes e2] at hP
  have HP : Hid (_ = some r) := hP
  clear hP
  have C2 := want_yes h1 nmB e2 q2
  unfold tokA at C2
  unfold nmB at C2
  clear e2
  go_wp2_with fail
  refine C2.mono ?_
  rintro e w2 ⟨rfl, h2, f2⟩
  clear C2
  have s2 := Tr.of f2
  have t2 := t1.trans s2
  have T2 := h1.tabs T1 f2
  have h2 : PS ts B pb F (i + 2) ns w2 := h2
  have q2 : i + 2 < ts.length := q2
  have g3 : Fr [] w2 (w2.alloc (.cells #[.int .i64 ((tk ts (i + 1)).kind : Nat), .string ⟨(tk ts (i + 1)).text.toArray⟩, .int .i64 ((tk ts (i + 1)).frm : Nat), .int .i64 ((tk ts (i + 1)).to : Nat), .int .i64 ((tk ts (i + 1)).n : Nat)] 43)) := (Fr.refl _ _).alloc _
  have v3 := TB.new w2 (.int .i64 ((tk ts (i + 1)).kind : Nat)) (.string ⟨(tk ts (i + 1)).text.toArray⟩) (.int .i64 ((tk ts (i + 1)).frm : Nat)) (.int .i64 ((tk ts (i + 1)).to : Nat)) (.int .i64 ((tk ts (i + 1)).n : Nat))
  have ni3 : w2.heap.size ∉ F := fun hm => by have := (h2.fb _ hm).2; omega
  have h3 := h2.fr g3 (by simp)
  have t3 := t2.trans (Tr.of0 g3)
  have T3 := T2.fr g3 (by simp)
  have hP := HP.out
  cases hP
  have a0 := v3.c1
  have b0 := v3.c2
  have KV0 := KV.nil B (w2.alloc (.cells #[.int .i64 ((tk ts (i + 1)).kind : Nat), .string ⟨(tk ts (i + 1)).text.toArray⟩, .int .i64 ((tk ts (i + 1)).frm : Nat), .int .i64 ((tk ts (i + 1)).to : Nat), .int .i64 ((tk ts (i + 1)).n : Nat)] 43))
  have LO : ∀ k ∈ ([] : List Nat), w.heap.size ≤ k := by simp
  have CL := lay_any h3 KV0 23 (tk ts (i + 1)).text (tk ts (i + 1)).frm (by have := HN.out; have := HTL.out; have := q2; omega)
  go_wp2_with fail
  refine CL.mono ?_
  rintro e wz ⟨rfl, Fz, hz, fz, sz⟩
  have tz : Tr F w Fz wz := lay_tr t3 fz sz LO
  go_wp2
  go_ret
  exact ⟨rfl, Fz, hz, tz⟩

set_option maxRecDepth 100000 in
set_option maxHeartbeats 2000000 in
theorem c_alone {ts : List Tok} {B pb : Nat} (hT : Toks ts) {f i kk : Nat} {ns : List PN} {w : World} {F : List Nat} {r : Except Nat (List Nat × Nat × List PN)} (H : Hyp ts B pb f) (h0 : PS ts B pb F i ns w) (T0 : Tabs w) (hp : preN ts i ns (.alone kk)) (hn : ns.length ≤ 2 * i + 1) (hP : P ts (f + 1) (.alone kk) i ns = some r) : Ctr ts B pb F w r (.alone kk) := by
  have hi := h0.ti
  have HTL : Hid (ts.length ≤ 200001) := h0.tl
  simp only [P] at hP
  have HP : Hid (_ = some r) := hP
  clear hP
  simp only [Ctr, ptr]
  have t0 := Tr.refl F w
  have HF0 : Hid (∀ k ∈ F, k < w.heap.size) := fun k hk => (h0.fb k hk).2
  have HN : Hid (ns.length ≤ 2 * i + 1) := hn
  clear hn
  have q1 := hT.more hi hp
  have C1 := pass_any h0 q1
  unfold tokA at C1
  go_enter Tryz.func62, Tryz.ntmps62
  go_wp2_with fail
  refine C1.mono ?_
  rintro e w1 ⟨rfl, h1, f1⟩
  clear C1
  have s1 := Tr.of f1
  have t1 := t0.trans s1
  have T1 := h0.tabs T0 f1
  have h1 : PS ts B pb F (i + 1) ns w1 := h1
  have q1 : i + 1 < ts.length := q1
  have fl1 := fld2 ((tk ts (i)).kind : Nat) ((tk ts (i)).frm : Nat) ((tk ts (i)).to : Nat) ((tk ts (i)).n : Nat) ⟨(tk ts (i)).text.toArray⟩ w1
  have hP := HP.out
  cases hP
  have KV0 := KV.nil B w1
  have LO : ∀ k ∈ ([] : List Nat), w.heap.size ≤ k := by simp
  have CL := lay_any h1 KV0 kk [] (tk ts (i)).frm (by have := HN.out; have := HTL.out; have := q1; omega)
  go_wp2_with fail
  refine CL.mono ?_
  rintro e wz ⟨rfl, Fz, hz, fz, sz⟩
  have tz : Tr F w Fz wz := lay_tr t1 fz sz LO
  go_wp2
  go_ret
  exact ⟨rfl, Fz, hz, tz⟩

set_option maxRecDepth 100000 in
set_option maxHeartbeats 2000000 in
theorem c_empty {ts : List Tok} {B pb : Nat} (hT : Toks ts) {f i kk : Nat} {ns : List PN} {w : World} {F : List Nat} {r : Except Nat (List Nat × Nat × List PN)} (H : Hyp ts B pb f) (h0 : PS ts B pb F i ns w) (T0 : Tabs w) (hp : preN ts i ns (.empty kk)) (hn : ns.length ≤ 2 * i + 1) (hP : P ts (f + 1) (.empty kk) i ns = some r) : Ctr ts B pb F w r (.empty kk) := by
  have hi := h0.ti
  have HTL : Hid (ts.length ≤ 200001) := h0.tl
  simp only [P] at hP
  have HP : Hid (_ = some r) := hP
  clear hP
  simp only [Ctr, ptr]
  have t0 := Tr.refl F w
  have HF0 : Hid (∀ k ∈ F, k < w.heap.size) := fun k hk => (h0.fb k hk).2
  have HN : Hid (ns.length ≤ 2 * i + 1) := hn
  clear hn
  have q1 := hT.more hi hp
  have C1 := pass_any h0 q1
  unfold tokA at C1
  go_enter Tryz.func64, Tryz.ntmps64
  go_wp2_with fail
  refine C1.mono ?_
  rintro e w1 ⟨rfl, h1, f1⟩
  clear C1
  have s1 := Tr.of f1
  have t1 := t0.trans s1
  have T1 := h0.tabs T0 f1
  have h1 : PS ts B pb F (i + 1) ns w1 := h1
  have q1 : i + 1 < ts.length := q1
  have fl1 := fld2 ((tk ts (i)).kind : Nat) ((tk ts (i)).frm : Nat) ((tk ts (i)).to : Nat) ((tk ts (i)).n : Nat) ⟨(tk ts (i)).text.toArray⟩ w1
  by_cases e2 : nx ts (i + 1) = [40]
  rotate_left
  · have hP := HP.out
    rw [wantR_no e2] at hP
    have C2 := want_no h1 [40] e2
    unfold thrown at C2
    cases hP
    go_wp2_with fail
    refine C2.mono ?_
    rintro e w2 ⟨rfl, f2⟩
    exact ⟨rfl, rfl, t1.ends (f2.sub (by simp))⟩
  have q2 := hT.more q1 (show nx ts (i + 1) ≠ [] by rw [e2]; decide)
  have hP := HP.out
  rw [wantR_yes e2] at hP
  have HP : Hid (_ = some r) := hP
  clear hP
  have C2 := want_yes h1 [40] e2 q2
  unfold tokA at C2
  clear e2
  go_wp2_with fail
  refine C2.mono ?_
  rintro e w2 ⟨rfl, h2, f2⟩
  clear C2
  have s2 := Tr.of f2
  have t2 := t1.trans s2
  have T2 := h1.tabs T1 f2
  have h2 : PS ts B pb F (i + 2) ns w2 := h2
  have q2 : i + 2 < ts.length := q2
  by_cases e3 : nx ts (i + 2) = [41]
  rotate_left
  · have hP := HP.out
    rw [wantR_no e3] at hP
    have C3 := want_no h2 [41] e3
    unfold thrown at C3
    cases hP
    go_wp2_with fail
    refine C3.mono ?_
    rintro e w3 ⟨rfl, f3⟩
    exact ⟨rfl, rfl, t2.ends (f3.sub (by simp))⟩
  have q3 := hT.more q2 (show nx ts (i + 2) ≠ [] by rw [e3]; decide)
  have hP := HP.out
  rw [wantR_yes e3] at hP
  have HP : Hid (_ = some r) := hP
  clear hP
  have C3 := want_yes h2 [41] e3 q3
  unfold tokA at C3
  clear e3
  go_wp2_with fail
  refine C3.mono ?_
  rintro e w3 ⟨rfl, h3, f3⟩
  clear C3
  have s3 := Tr.of f3
  have t3 := t2.trans s3
  have T3 := h2.tabs T2 f3
  have h3 : PS ts B pb F (i + 3) ns w3 := h3
  have q3 : i + 3 < ts.length := q3
  have hP := HP.out
  cases hP
  have KV0 := KV.nil B w3
  have LO : ∀ k ∈ ([] : List Nat), w.heap.size ≤ k := by simp
  have CL := lay_any h3 KV0 kk [] (tk ts (i)).frm (by have := HN.out; have := HTL.out; have := q3; omega)
  go_wp2_with fail
  refine CL.mono ?_
  rintro e wz ⟨rfl, Fz, hz, fz, sz⟩
  have tz : Tr F w Fz wz := lay_tr t3 fz sz LO
  go_wp2
  go_ret
  exact ⟨rfl, Fz, hz, tz⟩

set_option maxRecDepth 100000 in
set_option maxHeartbeats 2000000 in
theorem c_about {ts : List Tok} {B pb : Nat} (hT : Toks ts) {f i kk : Nat} {ns : List PN} {w : World} {F : List Nat} {r : Except Nat (List Nat × Nat × List PN)} (H : Hyp ts B pb f) (h0 : PS ts B pb F i ns w) (T0 : Tabs w) (hp : preN ts i ns (.about kk)) (hn : ns.length ≤ 2 * i + 1) (hP : P ts (f + 1) (.about kk) i ns = some r) : Ctr ts B pb F w r (.about kk) := by
  have hi := h0.ti
  have HTL : Hid (ts.length ≤ 200001) := h0.tl
  simp only [P] at hP
  have HP : Hid (_ = some r) := hP
  clear hP
  simp only [Ctr, ptr]
  have t0 := Tr.refl F w
  have HF0 : Hid (∀ k ∈ F, k < w.heap.size) := fun k hk => (h0.fb k hk).2
  have HN : Hid (ns.length ≤ 2 * i + 1) := hn
  clear hn
  have q1 := hT.more hi hp
  have C1 := pass_any h0 q1
  unfold tokA at C1
  go_enter Tryz.func63, Tryz.ntmps63
  go_wp2_with fail
  refine C1.mono ?_
  rintro e w1 ⟨rfl, h1, f1⟩
  clear C1
  have s1 := Tr.of f1
  have t1 := t0.trans s1
  have T1 := h0.tabs T0 f1
  have h1 : PS ts B pb F (i + 1) ns w1 := h1
  have q1 : i + 1 < ts.length := q1
  have fl1 := fld2 ((tk ts (i)).kind : Nat) ((tk ts (i)).frm : Nat) ((tk ts (i)).to : Nat) ((tk ts (i)).n : Nat) ⟨(tk ts (i)).text.toArray⟩ w1
  rcases bindR_some HP.out with ⟨er, hr, he⟩ | ⟨v2, j2, n2, hr, hP⟩
  · subst he
    have C2 := H f (.brack) _ _ w1 _ _ (Nat.le_refl _) h1 T1 trivial (by have := HN.out; omega) hr
    simp only [Ctr, ptr] at C2
    go_wp2_with fail
    refine C2.mono ?_
    rintro e w2 ⟨rfl, f2⟩
    exact ⟨rfl, rfl, t1.ends f2⟩
  obtain ⟨o2a, o2b, o2c, o2d, o2e⟩ := run_ok hT (nt := .brack) (ns := ns) h1.ti trivial hr
  simp only [consN, slack] at o2a o2d
  obtain ⟨m2, rfl, hm2⟩ := o2e rfl
  have C2 := H f (.brack) _ _ w1 _ _ (Nat.le_refl _) h1 T1 trivial (by have := HN.out; omega) hr
  simp only [Ctr, ptr] at C2
  have HP : Hid (_ = some r) := hP
  have B2 : Hid (n2.length + 1 ≤ 2 * j2 + 0 ∧ i < j2) := by have := HN.out; unfold Hid; omega
  have q2 := o2b
  clear hP hr o2a o2b o2c o2d o2e
  go_wp2_with fail
  refine C2.mono ?_
  rintro e w2 ⟨he, F2, h2, s2⟩
  obtain rfl : e = .returned (.int .i64 (m2 : Nat)) := he
  clear C2
  have f2 := s2.f
  have t2 := t1.trans s2
  have T2 := h1.tabs T1 f2
  have hP := HP.out
  cases hP
  have gb : Fr [] w2 (w2.alloc (.cells #[.int .i64 (m2 : Nat)] 3)) := (Fr.refl _ _).alloc _
  have ob : ON (w2.alloc (.cells #[.int .i64 (m2 : Nat)] 3)) B (.slice (some ⟨w2.heap.size, 0, none⟩) 1 1) [m2] := ON.built w2 B (by have := h2.fb pb h2.pf; omega) [m2] (by simp)
  have KV0 := ON.kv ob
  have LO : ∀ k ∈ (Value.slice (some ⟨w2.heap.size, 0, none⟩) 1 1).ownBlock.toList, w.heap.size ≤ k := fun k hk => by rw [own_mem hk]; exact t2.f.size
  have hb := h2.fr gb (by simp)
  have tb := t2.trans (Tr.of0 gb)
  have CL := lay_any hb KV0 kk [] (tk ts (i)).frm (by have := B2.out; have := HTL.out; have := q2; omega)
  go_wp2_with fail
  refine CL.mono ?_
  rintro e wz ⟨rfl, Fz, hz, fz, sz⟩
  have tz : Tr F w Fz wz := lay_tr tb fz sz LO
  go_wp2
  go_ret
  exact ⟨rfl, Fz, hz, tz⟩

set_option maxRecDepth 100000 in
set_option maxHeartbeats 2000000 in
theorem c_brack {ts : List Tok} {B pb : Nat} (hT : Toks ts) {f i : Nat} {ns : List PN} {w : World} {F : List Nat} {r : Except Nat (List Nat × Nat × List PN)} (H : Hyp ts B pb f) (h0 : PS ts B pb F i ns w) (T0 : Tabs w) (hp : preN ts i ns (.brack)) (hn : ns.length ≤ 2 * i + 1) (hP : P ts (f + 1) (.brack) i ns = some r) : Ctr ts B pb F w r (.brack) := by
  have hi := h0.ti
  have HTL : Hid (ts.length ≤ 200001) := h0.tl
  simp only [P] at hP
  have HP : Hid (_ = some r) := hP
  clear hP
  simp only [Ctr, ptr]
  have t0 := Tr.refl F w
  have HF0 : Hid (∀ k ∈ F, k < w.heap.size) := fun k hk => (h0.fb k hk).2
  have HN : Hid (ns.length ≤ 2 * i + 1) := hn
  clear hn
  by_cases e1 : nx ts (i) = [40]
  rotate_left
  · have hP := HP.out
    rw [wantR_no e1] at hP
    have C1 := want_no h0 [40] e1
    unfold thrown at C1
    cases hP
    go_enter Tryz.func40, Tryz.ntmps40
    go_wp2_with fail
    refine C1.mono ?_
    rintro e w1 ⟨rfl, f1⟩
    exact ⟨rfl, rfl, t0.ends (f1.sub (by simp))⟩
  have q1 := hT.more hi (show nx ts (i) ≠ [] by rw [e1]; decide)
  have hP := HP.out
  rw [wantR_yes e1] at hP
  have HP : Hid (_ = some r) := hP
  clear hP
  have C1 := want_yes h0 [40] e1 q1
  unfold tokA at C1
  clear e1
  go_enter Tryz.func40, Tryz.ntmps40
  go_wp2_with fail
  refine C1.mono ?_
  rintro e w1 ⟨rfl, h1, f1⟩
  clear C1
  have s1 := Tr.of f1
  have t1 := t0.trans s1
  have T1 := h0.tabs T0 f1
  have h1 : PS ts B pb F (i + 1) ns w1 := h1
  have q1 : i + 1 < ts.length := q1
  rcases bindR_some HP.out with ⟨er, hr, he⟩ | ⟨v2, j2, n2, hr, hP⟩
  · subst he
    have C2 := H f (.expr) _ _ w1 _ _ (Nat.le_refl _) h1 T1 trivial (by have := HN.out; omega) hr
    simp only [Ctr, ptr] at C2
    go_wp2_with fail
    refine C2.mono ?_
    rintro e w2 ⟨rfl, f2⟩
    exact ⟨rfl, rfl, t1.ends f2⟩
  obtain ⟨o2a, o2b, o2c, o2d, o2e⟩ := run_ok hT (nt := .expr) (ns := ns) h1.ti trivial hr
  simp only [consN, slack] at o2a o2d
  obtain ⟨m2, rfl, hm2⟩ := o2e rfl
  have C2 := H f (.expr) _ _ w1 _ _ (Nat.le_refl _) h1 T1 trivial (by have := HN.out; omega) hr
  simp only [Ctr, ptr] at C2
  have HP : Hid (_ = some r) := hP
  have B2 : Hid (n2.length + 1 ≤ 2 * j2 + 0 ∧ i < j2) := by have := HN.out; unfold Hid; omega
  have q2 := o2b
  clear hP hr o2a o2b o2c o2d o2e
  go_wp2_with fail
  refine C2.mono ?_
  rintro e w2 ⟨he, F2, h2, s2⟩
  obtain rfl : e = .returned (.int .i64 (m2 : Nat)) := he
  clear C2
  have f2 := s2.f
  have t2 := t1.trans s2
  have T2 := h1.tabs T1 f2
  by_cases e3 : nx ts (j2) = [41]
  rotate_left
  · have hP := HP.out
    rw [wantR_no e3] at hP
    have C3 := want_no h2 [41] e3
    unfold thrown at C3
    cases hP
    go_wp2_with fail
    refine C3.mono ?_
    rintro e w3 ⟨rfl, f3⟩
    exact ⟨rfl, rfl, t2.ends (f3.sub (by simp))⟩
  have q3 := hT.more q2 (show nx ts (j2) ≠ [] by rw [e3]; decide)
  have hP := HP.out
  rw [wantR_yes e3] at hP
  have HP : Hid (_ = some r) := hP
  clear hP
  have C3 := want_yes h2 [41] e3 q3
  unfold tokA at C3
  clear e3
  go_wp2_with fail
  refine C3.mono ?_
  rintro e w3 ⟨rfl, h3, f3⟩
  clear C3
  have s3 := Tr.of f3
  have t3 := t2.trans s3
  have T3 := h2.tabs T2 f3
  have h3 : PS ts B pb F2 (j2 + 1) n2 w3 := h3
  have q3 : j2 + 1 < ts.length := q3
  have hP := HP.out
  cases hP
  go_wp2
  go_ret
  exact ⟨rfl, _, h3, t3⟩

end Go.Proofs.YtekjfddcbcijdaaGreatDoor
