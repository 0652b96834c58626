/-
  What reads a function, and a number; conditions: the parser lies as told, the library's table lies as its text lays it.
-/
import Derived.Test.YtekjfddcbcijdaaGreatDoorParK
import Derived.Test.YtekjfddcbcijdaaGreatDoorFmt
import Derived.Lib.AppendIntMem
namespace Go.Proofs.YtekjfddcbcijdaaGreatDoor
open Go.RowKit Go.Shelf
set_option linter.unusedVariables false
set_option linter.unusedSimpArgs false

set_option maxRecDepth 100000 in
set_option maxHeartbeats 2000000 in
theorem c_func {ts : List Tok} {B pb : Nat} (hT : Toks ts) {f i : Nat} {ns : List PN} {w : World} {F : List Nat} {r : Except Nat (List Nat × Nat × List PN)} (H : Hyp ts B pb f) (h0 : PS ts B pb F i ns w) (T0 : Tabs w) (hp : preN ts i ns (.func)) (hn : ns.length ≤ 2 * i + 1) (hP : P ts (f + 1) (.func) i ns = some r) : Ctr ts B pb F w r (.func) := by
  have hi := h0.ti
  have HTL : Hid (ts.length ≤ 200001) := h0.tl
  simp only [P] at hP
  have HP : Hid (_ = some r) := hP
  clear hP
  simp only [Ctr, ptr]
  have t0 := Tr.refl F w
  have HF0 : Hid (∀ k ∈ F, k < w.heap.size) := fun k hk => (h0.fb k hk).2
  have HN : Hid (ns.length ≤ 2 * i + 1) := hn
  clear hn
  obtain ⟨i3, hi3, hz, hz1, hby⟩ := info_parts info3
  have q1 := hT.more hi hp
  have C1 := pass_any h0 q1
  unfold tokA at C1
  go_enter Tryz.func21, Tryz.ntmps21
  go_wp2_with fail
  refine C1.mono ?_
  rintro e w1 ⟨rfl, h1, f1⟩
  clear C1
  have s1 := Tr.of f1
  have t1 := t0.trans s1
  have T1 := h0.tabs T0 f1
  have h1 : PS ts B pb F (i + 1) ns w1 := h1
  have q1 : i + 1 < ts.length := q1
  have fl1 := fld2 ((tk ts (i)).kind : Nat) ((tk ts (i)).frm : Nat) ((tk ts (i)).to : Nat) ((tk ts (i)).n : Nat) ⟨(tk ts (i)).text.toArray⟩ w1
  by_cases e2 : nx ts (i + 1) = nmB
  rotate_left
  · have hP := HP.out
    rw [wantR_no e2] at hP
    have C2 := want_no h1 nmB e2
    unfold thrown at C2
    unfold nmB at C2
    cases hP
    go_wp2_with fail
    refine C2.mono ?_
    rintro e w2 ⟨rfl, f2⟩
    exact ⟨rfl, rfl, t1.ends (f2.sub (by simp))⟩
  have q2 := hT.more q1 (show nx ts (i + 1) ≠ [] by rw [e2]; decide)
  have hP := HP.out
  rw [wantR_yes e2] at hP
  have HP : Hid (_ = some r) := hP
  clear hP
  have C2 := want_yes h1 nmB e2 q2
  unfold tokA at C2
  unfold nmB at C2
  clear e2
  go_wp2_with fail
  refine C2.mono ?_
  rintro e w2 ⟨rfl, h2, f2⟩
  clear C2
  have s2 := Tr.of f2
  have t2 := t1.trans s2
  have T2 := h1.tabs T1 f2
  have h2 : PS ts B pb F (i + 2) ns w2 := h2
  have q2 : i + 2 < ts.length := q2
  have g3 : Fr [] w2 (w2.alloc (.cells #[.int .i64 ((tk ts (i + 1)).kind : Nat), .string ⟨(tk ts (i + 1)).text.toArray⟩, .int .i64 ((tk ts (i + 1)).frm : Nat), .int .i64 ((tk ts (i + 1)).to : Nat), .int .i64 ((tk ts (i + 1)).n : Nat)] 43)) := (Fr.refl _ _).alloc _
  have v3 := TB.new w2 (.int .i64 ((tk ts (i + 1)).kind : Nat)) (.string ⟨(tk ts (i + 1)).text.toArray⟩) (.int .i64 ((tk ts (i + 1)).frm : Nat)) (.int .i64 ((tk ts (i + 1)).to : Nat)) (.int .i64 ((tk ts (i + 1)).n : Nat))
  have ni3 : w2.heap.size ∉ F := fun hm => by have := (h2.fb _ hm).2; omega
  have h3 := h2.fr g3 (by simp)
  have t3 := t2.trans (Tr.of0 g3)
  have T3 := T2.fr g3 (by simp)
  by_cases e4 : nx ts (i + 2) = [40]
  rotate_left
  · have hP := HP.out
    rw [wantR_no e4] at hP
    have C4 := want_no h3 [40] e4
    unfold thrown at C4
    cases hP
    go_wp2_with fail
    refine C4.mono ?_
    rintro e w4 ⟨rfl, f4⟩
    exact ⟨rfl, rfl, t3.ends (f4.sub (by simp))⟩
  have q4 := hT.more q2 (show nx ts (i + 2) ≠ [] by rw [e4]; decide)
  have hP := HP.out
  rw [wantR_yes e4] at hP
  have HP : Hid (_ = some r) := hP
  clear hP
  have C4 := want_yes h3 [40] e4 q4
  unfold tokA at C4
  clear e4
  go_wp2_with fail
  refine C4.mono ?_
  rintro e w4 ⟨rfl, h4, f4⟩
  clear C4
  have s4 := Tr.of f4
  have t4 := t3.trans s4
  have T4 := h3.tabs T3 f4
  have u0_4 := v3.fr f4 ni3
  have ni0_4 := Tr.notin s4 ni3 v3.lt
  have h4 : PS ts B pb F (i + 3) ns w4 := h4
  have q4 : i + 3 < ts.length := q4
  rcases bindR_some HP.out with ⟨er, hr, he⟩ | ⟨v5, j5, n5, hr, hP⟩
  · subst he
    have C5 := H f (.listed false [41]) _ _ w4 _ _ (Nat.le_refl _) h4 T4 (by simp [preN]) (by have := HN.out; omega) hr
    simp only [Ctr, ptr, if_true, Bool.false_eq_true, if_false] at C5
    go_wp2_with fail
    refine C5.mono ?_
    rintro e w5 ⟨rfl, f5⟩
    exact ⟨rfl, rfl, t4.ends f5⟩
  obtain ⟨o5a, o5b, o5c, o5d, _⟩ := run_ok hT (nt := .listed false [41]) (ns := ns) h4.ti (by simp [preN]) hr
  simp only [consN, slack] at o5a o5d
  have C5 := H f (.listed false [41]) _ _ w4 _ _ (Nat.le_refl _) h4 T4 (by simp [preN]) (by have := HN.out; omega) hr
  simp only [Ctr, ptr, if_true, Bool.false_eq_true, if_false] at C5
  have HP : Hid (_ = some r) := hP
  have B5 : Hid (n5.length + 5 ≤ 2 * j5 + 0 ∧ i < j5) := by have := HN.out; unfold Hid; omega
  have q5 := o5b
  have LN5 : Hid (v5.length ≤ j5 ∧ j5 < ts.length) := ⟨listed_len hT false [41] (by decide) h4.ti hr, o5b⟩
  clear hP hr o5a o5b o5c o5d
  go_wp2_with fail
  refine C5.mono ?_
  rintro e w5 ⟨x5, F5, rfl, o5, y5, h5, s5⟩
  clear C5
  have f5 := s5.f
  have z5 : Hid (∀ k, (x5 : Value).ownBlock = some k → w.heap.size ≤ k) := fun k hk => Nat.le_trans t4.f.size (y5 k hk).2
  have ny5 : ∀ k, (x5 : Value).ownBlock = some k → k ∉ F5 := fun k hk => (y5 k hk).1
  clear y5
  have t5 := t4.trans s5
  have T5 := h4.tabs T4 f5
  have u0_5 := u0_4.fr f5 ni0_4
  have ni0_5 := Tr.notin s5 ni0_4 u0_4.lt
  rcases bindR_some HP.out with ⟨er, hr, he⟩ | ⟨v6, j6, n6, hr, hP⟩
  · subst he
    have C6 := H f (.block 0) _ _ w5 _ _ (Nat.le_refl _) h5 T5 trivial (by have := B5.out; omega) hr
    simp only [Ctr, ptr] at C6
    go_wp2_with fail
    refine C6.mono ?_
    rintro e w6 ⟨rfl, f6⟩
    exact ⟨rfl, rfl, t5.ends f6⟩
  obtain ⟨o6a, o6b, o6c, o6d, o6e⟩ := run_ok hT (nt := .block 0) (ns := n5) h5.ti trivial hr
  simp only [consN, slack] at o6a o6d
  obtain ⟨m6, rfl, hm6⟩ := o6e rfl
  have C6 := H f (.block 0) _ _ w5 _ _ (Nat.le_refl _) h5 T5 trivial (by have := B5.out; omega) hr
  simp only [Ctr, ptr] at C6
  have HP : Hid (_ = some r) := hP
  have B6 : Hid (n6.length + 5 ≤ 2 * j6 + 0 ∧ i < j6) := by have := B5.out; unfold Hid; omega
  have q6 := o6b
  clear hP hr o6a o6b o6c o6d o6e
  go_wp2_with fail
  refine C6.mono ?_
  rintro e w6 ⟨he, F6, h6, s6⟩
  obtain rfl : e = .returned (.int .i64 (m6 : Nat)) := he
  clear C6
  have f6 := s6.f
  have t6 := t5.trans s6
  have T6 := h5.tabs T5 f6
  have u0_6 := u0_5.fr f6 ni0_5
  have ni0_6 := Tr.notin s6 ni0_5 u0_5.lt
  have o0_6 := own_fr o5 f6 (fun k hk => ny5 k hk)
  have oi0_6 : ∀ k, (x5).ownBlock = some k → k ∉ F6 := fun k hk => Tr.notin s6 (ny5 k hk) (o5.lt k hk).2
  obtain ⟨xa, xc, hx, _⟩ := own_slice o0_6
  subst hx
  have KR0 : KR B w F6 w6 (.slice xa v5.length xc) v5 := ⟨o0_6, oi0_6, z5.out⟩
  have HB9 : Hid (B ≤ w6.heap.size) := by have := h6.fb pb h6.pf; unfold Hid; omega
  go_wp2_with (at_builtin; refine wpList_append_own_at _ rfl _ _ 28 rfl B 3 i3 (.int .i64 0) 1 8 under35 hi3 hz hz1 hby rfl (by decide) (.slice xa v5.length xc) v5.length (v5.map (fun k => Value.int .i64 (k : Nat))) rfl (KR0.on.alloc _) ⟨w6.heap.size, 0, none⟩ 1 1 [.int .i64 (m6 : Nat)] rfl rfl (one_new w6 _) (by simp [Value.oneCell']) (by have := LN5.out; have := HTL.out; unfold maxLen; omega) (by have := LN5.out; have := HTL.out; omega) (by have := HB9.out; simp; omega) ?_)
  intro y9 w9 hown9 hgrow9 hnil9 hloc9
  have f9 : Fr (Value.slice xa v5.length xc).ownBlock.toList w6 w9 := ((Fr.refl _ _).alloc _).trans ((Fr.ofGrown hgrow9).sub (fun k hk => .inl hk))
  have hni9 : ∀ k ∈ (Value.slice xa v5.length xc).ownBlock.toList, k ∉ F6 := fun k hk => KR0.ni k (by simpa using hk)
  have h9 := h6.fr f9 hni9
  have k9 := KR0.snoc (m := m6) t6.f.size (fun k hk => (h6.fb k hk).2) hown9 (by simpa using hloc9)
  have t9 : Tr F w F6 w9 := row_tr t6 f9 (fun k hk => KR0.lo k (by simpa using hk))
  have u9 := u0_6.fr f9 (fun hm => by have := own_ne KR0.on u0_6 (by decide); exact this (by simpa using hm))
  have on9 := k9.on
  have ni9 := k9.ni
  have z9 : Hid (∀ k, (y9 : Value).ownBlock = some k → w.heap.size ≤ k) := k9.lo
  clear hgrow9 hnil9 hloc9 hown9 KR0 o0_6
  have hP := HP.out
  cases hP
  have a0 := u9.c1
  have b0 := u9.c2
  obtain ⟨za, zc, hx, _⟩ := own_slice on9
  simp only [List.length_append, List.length_cons, List.length_nil, Nat.zero_add] at hx
  have KV0 := ON.kv on9
  have LO : ∀ k ∈ (y9).ownBlock.toList, w.heap.size ≤ k := fun k hk => z9.out k (by simpa using hk)
  subst hx
  have CL := lay_any h9 KV0 3 (tk ts (i + 1)).text (tk ts (i + 1)).frm (by have := B6.out; have := HTL.out; have := q6; omega)
  go_wp2_with fail
  refine CL.mono ?_
  rintro e wz ⟨rfl, Fz, hz, fz, sz⟩
  have tz : Tr F w Fz wz := lay_tr t9 fz sz LO
  go_wp2
  go_ret
  exact ⟨rfl, Fz, hz, tz⟩


theorem fmt_fr {w w' : World} {k : Nat} {os : Array Obj} (h : w' = Go.Sort.grow (w.drewN k) os) : Fr [] w w' := by
  rw [h]
  exact Fr.ofBelow (Lib.below_grow _ w (Nat.le_refl _) k os)
theorem itoa_nat (n : Nat) : Lib.itoa (n : Int) = Lib.decDigits n := by
  unfold Lib.itoa
  rw [if_neg (by omega)]
  simp
set_option maxRecDepth 100000 in
theorem fmt_any (n : Nat) (hn : n ≤ 9223372036854775807) (w : World) (T : Tabs w) : Calls Tryz.prog 60 #[.int .i64 (n : Nat), .int .i64 10] w fun e w' => e = .returned (.string ⟨(Lib.decDigits n).toArray⟩) ∧ Fr [] w w' := by
  have C := Go.Proofs.Tryz.internal_strconv_FormatInt_10 (n : Int) (by omega) (by omega) w T.pow
  rw [itoa_nat] at C
  go_enter Tryz.func60, Tryz.ntmps60
  go_wp2_with fail
  refine C.mono ?_
  rintro e w1 ⟨rfl, k, os, hw⟩
  have f1 := fmt_fr hw
  clear hw
  go_wp2
  go_ret
  exact ⟨rfl, f1⟩

set_option maxRecDepth 100000 in
set_option maxHeartbeats 2000000 in
theorem c_number {ts : List Tok} {B pb : Nat} (hT : Toks ts) {f i : Nat} {ns : List PN} {w : World} {F : List Nat} {r : Except Nat (List Nat × Nat × List PN)} (h0 : PS ts B pb F i ns w) (T0 : Tabs w) (hp : preN ts i ns .number) (hn : ns.length ≤ 2 * i + 1) (hP : P ts (f + 1) .number i ns = some r) : Ctr ts B pb F w r .number := by
  have hi := h0.ti
  have HTL : Hid (ts.length ≤ 200001) := h0.tl
  simp only [P] at hP
  simp only [Ctr, ptr]
  cases hP
  have q1 := hT.more hi hp
  have C1 := pass_any h0 q1
  unfold tokA at C1
  have HN : Hid (ns.length ≤ 2 * i + 1) := hn
  have HNM : Hid ((tk ts i).n ≤ 9223372036854775807) := hT.num i
  clear hn hp
  go_enter Tryz.func29, Tryz.ntmps29
  go_wp2_with fail
  refine C1.mono ?_
  rintro e w1 ⟨rfl, h1, f1⟩
  clear C1
  have gA : Fr [] w1 (w1.alloc (.cells #[.int .i64 ((tk ts i).kind : Nat), .string ⟨(tk ts i).text.toArray⟩, .int .i64 ((tk ts i).frm : Nat), .int .i64 ((tk ts i).to : Nat), .int .i64 ((tk ts i).n : Nat)] 43)) := (Fr.refl _ _).alloc _
  have uA := TB.new w1 (.int .i64 ((tk ts i).kind : Nat)) (.string ⟨(tk ts i).text.toArray⟩) (.int .i64 ((tk ts i).frm : Nat)) (.int .i64 ((tk ts i).to : Nat)) (.int .i64 ((tk ts i).n : Nat))
  have niA : w1.heap.size ∉ F := fun hm => by have := (h1.fb _ hm).2; omega
  have hA := h1.fr gA (by simp)
  have tA := ((Tr.refl F w).trans (Tr.of f1)).trans (Tr.of0 gA)
  have TA := (h0.tabs T0 f1).fr gA (by simp)
  clear f1 h1
  go_wp2
  generalize w1.alloc (.cells #[.int .i64 ((tk ts i).kind : Nat), .string ⟨(tk ts i).text.toArray⟩, .int .i64 ((tk ts i).frm : Nat), .int .i64 ((tk ts i).to : Nat), .int .i64 ((tk ts i).n : Nat)] 43) = wA at *
  generalize w1.heap.size = bA at *
  have r2 : ∀ w', Fr F wA w' → w'.cell? ⟨bA, 2, none⟩ = _ := fun w' f => (uA.fr f niA).c2
  have r4 : ∀ w', Fr F wA w' → w'.cell? ⟨bA, 4, none⟩ = _ := fun w' f => (uA.fr f niA).c4
  have fA : Fr F wA wA := Fr.refl _ _
  have HLN : Hid (ns.length + 1 ≤ 1000000) := by have := HN.out; have := HTL.out; unfold Hid; omega
  clear gA
  go_region_held3 (fun w' => Fr F wA w') (with_reducible (first | assumption | (refine Fr.drew ?_; assumption)))
    (first
      | (go_at_call 60; refine (fmt_any (tk ts i).n HNM.out _ (TA.fr (S := []) ((Fr.refl _ _).drew) (by simp))).mono ?_; rintro e w3 ⟨rfl, f3⟩; have f03 : Fr [] wA w3 := ((Fr.refl [] wA).drew).trans f3; have fF3 : Fr F wA w3 := f03.sub (by simp))
      | (go_at_call 43; refine (lay_any (hA.fr f03 (by simp)) (KV.nil B _) 15 (Lib.decDigits (tk ts i).n) (tk ts i).frm HLN.out).mono ?_; rintro e wz ⟨rfl, Fz, hz, fz, sz⟩; have fFz : Fr F wA wz := (fF3.trans fz)))
  have tz : Tr F w Fz wz := lay_tr (G := []) (tA.trans (Tr.of0 f03)) fz sz (by simp)
  go_wp2
  go_ret
  exact ⟨rfl, Fz, hz, tz⟩
end Go.Proofs.YtekjfddcbcijdaaGreatDoor
