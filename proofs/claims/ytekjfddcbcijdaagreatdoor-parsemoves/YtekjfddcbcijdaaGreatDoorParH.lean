/-
  What the parser's calls do that look ahead; conditions: the parser lies as told.
-/
import Derived.Test.YtekjfddcbcijdaaGreatDoorParF
import Derived.Test.YtekjfddcbcijdaaGreatDoorParG
namespace Go.Proofs.YtekjfddcbcijdaaGreatDoor
open Go.RowKit
set_option linter.unusedVariables false
set_option linter.unusedSimpArgs false

set_option maxRecDepth 100000 in
set_option maxHeartbeats 2000000 in
theorem c_other {ts : List Tok} {B pb : Nat} (hT : Toks ts) {f i : Nat} {ns : List PN} {w : World} {F : List Nat} {r : Except Nat (List Nat × Nat × List PN)} (H : Hyp ts B pb f) (h0 : PS ts B pb F i ns w) (T0 : Tabs w) (hp : preN ts i ns (.other)) (hn : ns.length ≤ 2 * i + 1) (hP : P ts (f + 1) (.other) i ns = some r) : Ctr ts B pb F w r (.other) := by
  have hi := h0.ti
  have HTL : Hid (ts.length ≤ 200001) := h0.tl
  simp only [P] at hP
  have HP : Hid (_ = some r) := hP
  clear hP
  simp only [Ctr, ptr]
  have t0 := Tr.refl F w
  have HF0 : Hid (∀ k ∈ F, k < w.heap.size) := fun k hk => (h0.fb k hk).2
  have HN : Hid (ns.length ≤ 2 * i + 1) := hn
  clear hn
  by_cases e1 : nx ts (i) = [101, 108, 115, 101]
  · have hP := HP.out
    rw [if_pos e1] at hP
    have HP : Hid (_ = some r) := hP
    clear hP
    have q1 := hT.more hi (show nx ts (i) ≠ [] by rw [e1]; decide)
    have C1 := passIf_yes h0 [101, 108, 115, 101] e1 q1
    clear e1
    go_enter Tryz.func58, Tryz.ntmps58
    go_wp2_with fail
    refine C1.mono ?_
    rintro e w1 ⟨rfl, h1, f1⟩
    clear C1
    have s1 := Tr.of f1
    have t1 := t0.trans s1
    have T1 := h0.tabs T0 f1
    have h1 : PS ts B pb F (i + 1) ns w1 := h1
    have q1 : i + 1 < ts.length := q1
    rcases r with er | ⟨v2, j2, n2⟩
    · have C2 := H f (.block 0) _ _ w1 _ _ (Nat.le_refl _) h1 T1 trivial (by have := HN.out; omega) HP.out
      simp only [Ctr, ptr] at C2
      go_wp2_with fail
      refine C2.mono ?_
      rintro e w2 ⟨rfl, f2⟩
      exact ⟨rfl, rfl, t1.ends f2⟩
    · obtain ⟨_, _, _, _, oe⟩ := run_ok hT (nt := .block 0) (ns := ns) h1.ti trivial HP.out
      obtain ⟨m2, rfl, hm2⟩ := oe rfl
      have C2 := H f (.block 0) _ _ w1 _ _ (Nat.le_refl _) h1 T1 trivial (by have := HN.out; omega) HP.out
      simp only [Ctr, ptr] at C2
      go_wp2_with fail
      refine C2.mono ?_
      rintro e w2 ⟨he, F2, h2, s2⟩
      obtain rfl : e = .returned (.int .i64 (m2 : Nat)) := he
      go_wp2
      go_ret
      exact ⟨rfl, F2, h2, t1.trans s2⟩
  · have hP := HP.out
    rw [if_neg e1] at hP
    have HP : Hid (_ = some r) := hP
    clear hP
    have C1 := passIf_no h0 [101, 108, 115, 101] e1
    clear e1
    go_enter Tryz.func58, Tryz.ntmps58
    go_wp2_with fail
    refine C1.mono ?_
    rintro e w1 ⟨rfl, f1⟩
    clear C1
    have h1 := h0.fr f1 (by simp)
    have t1 := t0.trans (Tr.of0 f1)
    have T1 := T0.fr f1 (by simp)
    have hP := HP.out
    cases hP
    have KV0 := KV.nil B w1
    have LO : ∀ k ∈ ([] : List Nat), w.heap.size ≤ k := by simp
    have CL := lay_any h1 KV0 14 [] 0 (by have := HN.out; have := HTL.out; have := hi; omega)
    go_wp2_with fail
    refine CL.mono ?_
    rintro e wz ⟨rfl, Fz, hz, fz, sz⟩
    have tz : Tr F w Fz wz := lay_tr t1 fz sz LO
    go_wp2
    go_ret
    exact ⟨rfl, Fz, hz, tz⟩

set_option maxRecDepth 100000 in
set_option maxHeartbeats 2000000 in
theorem c_nameOrCall {ts : List Tok} {B pb : Nat} (hT : Toks ts) {f i : Nat} {ns : List PN} {w : World} {F : List Nat} {r : Except Nat (List Nat × Nat × List PN)} (H : Hyp ts B pb f) (h0 : PS ts B pb F i ns w) (T0 : Tabs w) (hp : preN ts i ns (.nameOrCall)) (hn : ns.length ≤ 2 * i + 1) (hP : P ts (f + 1) (.nameOrCall) i ns = some r) : Ctr ts B pb F w r (.nameOrCall) := by
  have hi := h0.ti
  have HTL : Hid (ts.length ≤ 200001) := h0.tl
  simp only [P] at hP
  have HP : Hid (_ = some r) := hP
  clear hP
  simp only [Ctr, ptr]
  have t0 := Tr.refl F w
  have HF0 : Hid (∀ k ∈ F, k < w.heap.size) := fun k hk => (h0.fb k hk).2
  have HN : Hid (ns.length ≤ 2 * i + 1) := hn
  clear hn
  have q1 := hT.more hi hp
  have C1 := pass_any h0 q1
  unfold tokA at C1
  go_enter Tryz.func30, Tryz.ntmps30
  go_wp2_with fail
  refine C1.mono ?_
  rintro e w1 ⟨rfl, h1, f1⟩
  clear C1
  have s1 := Tr.of f1
  have t1 := t0.trans s1
  have T1 := h0.tabs T0 f1
  have h1 : PS ts B pb F (i + 1) ns w1 := h1
  have q1 : i + 1 < ts.length := q1
  have g2 : Fr [] w1 (w1.alloc (.cells #[.int .i64 ((tk ts (i)).kind : Nat), .string ⟨(tk ts (i)).text.toArray⟩, .int .i64 ((tk ts (i)).frm : Nat), .int .i64 ((tk ts (i)).to : Nat), .int .i64 ((tk ts (i)).n : Nat)] 43)) := (Fr.refl _ _).alloc _
  have v2 := TB.new w1 (.int .i64 ((tk ts (i)).kind : Nat)) (.string ⟨(tk ts (i)).text.toArray⟩) (.int .i64 ((tk ts (i)).frm : Nat)) (.int .i64 ((tk ts (i)).to : Nat)) (.int .i64 ((tk ts (i)).n : Nat))
  have ni2 : w1.heap.size ∉ F := fun hm => by have := (h1.fb _ hm).2; omega
  have h2 := h1.fr g2 (by simp)
  have t2 := t1.trans (Tr.of0 g2)
  have T2 := T1.fr g2 (by simp)
  by_cases e3 : nx ts (i + 1) = [40]
  · have hP := HP.out
    rw [if_pos e3] at hP
    have HP : Hid (_ = some r) := hP
    clear hP
    have q3 := hT.more q1 (show nx ts (i + 1) ≠ [] by rw [e3]; decide)
    have C3 := passIf_yes h2 [40] e3 q3
    clear e3
    go_wp2_with fail
    refine C3.mono ?_
    rintro e w3 ⟨rfl, h3, f3⟩
    clear C3
    have s3 := Tr.of f3
    have t3 := t2.trans s3
    have T3 := h2.tabs T2 f3
    have u0_3 := v2.fr f3 ni2
    have ni0_3 := Tr.notin s3 ni2 v2.lt
    have h3 : PS ts B pb F (i + 2) ns w3 := h3
    have q3 : i + 2 < ts.length := q3
    rcases bindR_some HP.out with ⟨er, hr, he⟩ | ⟨v4, j4, n4, hr, hP⟩
    · subst he
      have C4 := H f (.listed true [41]) _ _ w3 _ _ (Nat.le_refl _) h3 T3 (by simp [preN]) (by have := HN.out; omega) hr
      simp only [Ctr, ptr, if_true, Bool.false_eq_true, if_false] at C4
      go_wp2_with fail
      refine C4.mono ?_
      rintro e w4 ⟨rfl, f4⟩
      exact ⟨rfl, rfl, t3.ends f4⟩
    obtain ⟨o4a, o4b, o4c, o4d, _⟩ := run_ok hT (nt := .listed true [41]) (ns := ns) h3.ti (by simp [preN]) hr
    simp only [consN, slack] at o4a o4d
    have C4 := H f (.listed true [41]) _ _ w3 _ _ (Nat.le_refl _) h3 T3 (by simp [preN]) (by have := HN.out; omega) hr
    simp only [Ctr, ptr, if_true, Bool.false_eq_true, if_false] at C4
    have HP : Hid (_ = some r) := hP
    have B4 : Hid (n4.length + 3 ≤ 2 * j4 + 0 ∧ i < j4) := by have := HN.out; unfold Hid; omega
    have q4 := o4b
    clear hP hr o4a o4b o4c o4d
    go_wp2_with fail
    refine C4.mono ?_
    rintro e w4 ⟨x4, F4, rfl, o4, y4, h4, s4⟩
    clear C4
    have f4 := s4.f
    have z4 : Hid (∀ k, (x4 : Value).ownBlock = some k → w.heap.size ≤ k) := fun k hk => Nat.le_trans t3.f.size (y4 k hk).2
    have ny4 : ∀ k, (x4 : Value).ownBlock = some k → k ∉ F4 := fun k hk => (y4 k hk).1
    clear y4
    have t4 := t3.trans s4
    have T4 := h3.tabs T3 f4
    have u0_4 := u0_3.fr f4 ni0_3
    have ni0_4 := Tr.notin s4 ni0_3 u0_3.lt
    have hP := HP.out
    cases hP
    have a0 := u0_4.c1
    have b0 := u0_4.c2
    obtain ⟨xa, xc, hx, _⟩ := own_slice o4
    have KV0 := ON.kv o4
    have LO : ∀ k ∈ (x4).ownBlock.toList, w.heap.size ≤ k := fun k hk => z4.out k (by simpa using hk)
    subst hx
    have CL := lay_any h4 KV0 22 (tk ts (i)).text (tk ts (i)).frm (by have := B4.out; have := HTL.out; have := q4; omega)
    go_wp2_with fail
    refine CL.mono ?_
    rintro e wz ⟨rfl, Fz, hz, fz, sz⟩
    have tz : Tr F w Fz wz := lay_tr t4 fz sz LO
    go_wp2
    go_ret
    exact ⟨rfl, Fz, hz, tz⟩
  · have hP := HP.out
    rw [if_neg e3] at hP
    have HP : Hid (_ = some r) := hP
    clear hP
    have C3 := passIf_no h2 [40] e3
    clear e3
    go_wp2_with fail
    refine C3.mono ?_
    rintro e w3 ⟨rfl, f3⟩
    clear C3
    have h3 := h2.fr f3 (by simp)
    have t3 := t2.trans (Tr.of0 f3)
    have T3 := T2.fr f3 (by simp)
    have u0_3 := v2.fr f3 (by simp)
    have hP := HP.out
    cases hP
    have a0 := u0_3.c1
    have b0 := u0_3.c2
    have KV0 := KV.nil B w3
    have LO : ∀ k ∈ ([] : List Nat), w.heap.size ≤ k := by simp
    have CL := lay_any h3 KV0 17 (tk ts (i)).text (tk ts (i)).frm (by have := HN.out; have := HTL.out; have := q1; omega)
    go_wp2_with fail
    refine CL.mono ?_
    rintro e wz ⟨rfl, Fz, hz, fz, sz⟩
    have tz : Tr F w Fz wz := lay_tr t3 fz sz LO
    go_wp2
    go_ret
    exact ⟨rfl, Fz, hz, tz⟩

end Go.Proofs.YtekjfddcbcijdaaGreatDoor
