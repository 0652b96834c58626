/-
  What reads a statement that begins as an expression does; conditions: the parser lies as told.
-/
import Derived.Test.YtekjfddcbcijdaaGreatDoorParO
namespace Go.Proofs.YtekjfddcbcijdaaGreatDoor
open Go.RowKit Go.Shelf
set_option linter.unusedVariables false
set_option linter.unusedSimpArgs false

theorem place_not {k : Nat} (h : placeK k = true) : k ≠ 22 := by
  intro e
  subst e
  cases h

set_option maxRecDepth 100000 in
set_option maxHeartbeats 2000000 in
theorem c_setOrDo {ts : List Tok} {B pb : Nat} (hT : Toks ts) {f i : Nat} {ns : List PN} {w : World} {F : List Nat} {r : Except Nat (List Nat × Nat × List PN)} (H : Hyp ts B pb f) (h0 : PS ts B pb F i ns w) (T0 : Tabs w) (hp : preN ts i ns (.setOrDo)) (hn : ns.length ≤ 2 * i + 1) (hP : P ts (f + 1) (.setOrDo) i ns = some r) : Ctr ts B pb F w r (.setOrDo) := by
  have hi := h0.ti
  have HTL : Hid (ts.length ≤ 200001) := h0.tl
  simp only [P] at hP
  have HP : Hid (_ = some r) := hP
  clear hP
  simp only [Ctr, ptr]
  have t0 := Tr.refl F w
  have HF0 : Hid (∀ k ∈ F, k < w.heap.size) := fun k hk => (h0.fb k hk).2
  have HN : Hid (ns.length ≤ 2 * i + 1) := hn
  clear hn
  rcases bindR_some HP.out with ⟨er, hr, he⟩ | ⟨v1, j1, n1, hr, hP⟩
  · subst he
    have C1 := H f (.back) _ _ w _ _ (Nat.le_refl _) h0 T0 trivial (by have := HN.out; omega) hr
    simp only [Ctr, ptr] at C1
    go_enter Tryz.func81, Tryz.ntmps81
    go_wp2_with fail
    refine C1.mono ?_
    rintro e w1 ⟨rfl, f1⟩
    exact ⟨rfl, rfl, t0.ends f1⟩
  obtain ⟨o1a, o1b, o1c, o1d, o1e⟩ := run_ok hT (nt := .back) (ns := ns) h0.ti trivial hr
  simp only [consN, slack] at o1a o1d
  obtain ⟨m1, rfl, hm1⟩ := o1e rfl
  have C1 := H f (.back) _ _ w _ _ (Nat.le_refl _) h0 T0 trivial (by have := HN.out; omega) hr
  simp only [Ctr, ptr] at C1
  have HP : Hid (_ = some r) := hP
  have B1 : Hid (n1.length + 0 ≤ 2 * j1 + 1 ∧ i < j1) := by have := HN.out; unfold Hid; omega
  have q1 := o1b
  clear hP hr o1a o1b o1c o1d o1e
  go_enter Tryz.func81, Tryz.ntmps81
  go_wp2_with fail
  refine C1.mono ?_
  rintro e w1 ⟨he, F1, h1, s1⟩
  obtain rfl : e = .returned (.int .i64 (m1 : Nat)) := he
  clear C1
  have f1 := s1.f
  have t1 := t0.trans s1
  have T1 := h0.tabs T0 f1
  obtain ⟨x0, x1, nb, nc, x3, x4, x5, hbk, hnc, c0, c3⟩ := h1.node hm1
  obtain ⟨_, _, d2, _, _, _, _⟩ := pt_cells hbk
  clear hbk
  have HKK : Hid (m1 < n1.length) := hm1
  have hmI : (m1 : Int) < n1.length := by omega
  have hncI : (n1.length : Int) ≤ nc := by omega
  have hcap : (n1.length : Int) ≤ 1000000 := by have := B1.out; have := HTL.out; have := q1; omega
  have CI := fun w => isPlace_any (kdN n1 m1) w
  have hP := HP.out
  clear HP
  simp only [hd, List.getD_cons_zero] at hP
  have CN := fun w' (f : Fr [] w1 w') => next_any (h1.fr f (by simp))
  cases hpl : placeK (kdN n1 m1) with
  | true =>
    by_cases e2 : nx ts j1 = [61]
    · rw [if_pos ⟨hpl, e2⟩] at hP
      rw [hpl] at CI
      have HNE : Hid (nx ts j1 ≠ []) := by unfold Hid; rw [e2]; decide
      rw [e2] at CN
      have HP : Hid (P ts f (.setS m1) j1 n1 = some r) := hP
      clear hP e2 hpl
      generalize kdN n1 m1 = K at *
      go_wp2_with fail
      refine (CI w1).mono ?_
      rintro e w1 ⟨rfl, rfl⟩
      have CN1 := CN w1 (Fr.refl _ _)
      clear CN CI
      go_wp2_with fail
      refine CN1.mono ?_
      rintro e w2 ⟨rfl, f2⟩
      have h2 := h1.fr f2 (by simp)
      have t2 := t1.trans (Tr.of0 f2)
      have T2 := T1.fr f2 (by simp)
      clear CN1 c0 c3 d2
      rcases r with er | ⟨v3, j3, n3⟩
      · have C3 := H f (.setS m1) _ _ w2 _ _ (Nat.le_refl _) h2 T2 HNE.out (by have := B1.out; omega) HP.out
        simp only [Ctr, ptr] at C3
        go_wp2_with fail
        refine C3.mono ?_
        rintro e w3 ⟨rfl, f3⟩
        exact ⟨rfl, rfl, t2.ends f3⟩
      · obtain ⟨_, _, _, _, oe⟩ := run_ok hT (nt := .setS m1) (ns := n1) h2.ti HNE.out HP.out
        obtain ⟨m3, rfl, hm3⟩ := oe rfl
        have C3 := H f (.setS m1) _ _ w2 _ _ (Nat.le_refl _) h2 T2 HNE.out (by have := B1.out; omega) HP.out
        simp only [Ctr, ptr] at C3
        go_wp2_with fail
        refine C3.mono ?_
        rintro e w3 ⟨he, F3, h3, s3⟩
        obtain rfl : e = .returned (.int .i64 (m3 : Nat)) := he
        go_wp2
        go_ret
        exact ⟨rfl, F3, h3, t2.trans s3⟩
    · rw [if_neg (fun h => e2 h.2), if_pos (place_not hpl)] at hP
      have b22 : ((kdN n1 m1 : Int) != 22) = true := by have := place_not hpl; simp; omega
      rw [hpl] at CI
      have ne : (nx ts j1 == [61]) = false := by simpa using e2
      cases hP
      clear e2 hpl
      generalize kdN n1 m1 = K at *
      generalize nx ts j1 = X at *
      go_wp2_with fail
      refine (CI w1).mono ?_
      rintro e w1 ⟨rfl, rfl⟩
      have CN1 := CN w1 (Fr.refl _ _)
      clear CN CI
      go_wp2_with fail
      refine CN1.mono ?_
      rintro e w2 ⟨rfl, f2⟩
      have C3 := refuse_any (h1.fr f2 (by simp))
      clear CN1
      go_wp2_with fail
      refine C3.mono ?_
      rintro e w3 ⟨rfl, f3⟩
      exact ⟨rfl, rfl, t1.ends ((f2.trans f3).sub (by simp))⟩
  | false =>
    rw [if_neg (fun h => by rw [hpl] at h; cases h.1)] at hP
    rw [hpl] at CI
    clear hpl CN
    by_cases e2 : kdN n1 m1 = 22
    · rw [if_neg (fun h => h e2)] at hP
      rw [e2] at CI c0
      clear e2
      have HP : Hid (_ = some r) := hP
      clear hP
      obtain ⟨PL, HPLX⟩ : ∃ PL, Hid (plN n1 m1 = PL) := ⟨_, rfl⟩
      rw [HPLX.out] at HP c3
      go_wp2_with fail
      refine (CI w1).mono ?_
      rintro e w1 ⟨rfl, rfl⟩
      clear CI c0
      by_cases e3 : nx ts (j1) = [59]
      rotate_left
      · have hP := HP.out
        rw [wantR_no e3] at hP
        have C3 := want_no h1 [59] e3
        unfold thrown at C3
        cases hP
        go_wp2_with fail
        refine C3.mono ?_
        rintro e w3 ⟨rfl, f3⟩
        exact ⟨rfl, rfl, t1.ends (f3.sub (by simp))⟩
      have q3 := hT.more q1 (show nx ts (j1) ≠ [] by rw [e3]; decide)
      have hP := HP.out
      rw [wantR_yes e3] at hP
      have HP : Hid (_ = some r) := hP
      clear hP
      have C3 := want_yes h1 [59] e3 q3
      unfold tokA at C3
      clear e3
      go_wp2_with fail
      refine C3.mono ?_
      rintro e w3 ⟨rfl, h3, f3⟩
      clear C3
      have s3 := Tr.of f3
      have t3 := t1.trans s3
      have T3 := h1.tabs T1 f3
      have h3 : PS ts B pb F1 (j1 + 1) n1 w3 := h3
      have q3 : j1 + 1 < ts.length := q3
      obtain ⟨y0, y1, yb, yc, y3, y4, y5, hbk, hyc, _, z3⟩ := h3.node HKK.out
      obtain ⟨_, _, z2, _, _, _, _⟩ := pt_cells hbk
      have HPL : Hid (plN n1 m1 = PL) := HPLX
      rw [HPL.out] at z3
      have hycI : (n1.length : Int) ≤ yc := by omega
      clear hbk d2 c3 hnc hncI
      have hP := HP.out
      cases hP
      have gb : Fr [] w3 (w3.alloc (.cells #[.int .i64 (m1 : Nat)] 3)) := (Fr.refl _ _).alloc _
      have ob : ON (w3.alloc (.cells #[.int .i64 (m1 : Nat)] 3)) B (.slice (some ⟨w3.heap.size, 0, none⟩) 1 1) [m1] := ON.built w3 B (by have := h3.fb pb h3.pf; omega) [m1] (by simp)
      have KV0 := ON.kv ob
      have LO : ∀ k ∈ (Value.slice (some ⟨w3.heap.size, 0, none⟩) 1 1).ownBlock.toList, w.heap.size ≤ k := fun k hk => by rw [own_mem hk]; exact t3.f.size
      have hb := h3.fr gb (by simp)
      have tb := t3.trans (Tr.of0 gb)
      have CL := lay_any hb KV0 12 [] PL (by have := B1.out; have := HTL.out; have := q3; omega)
      go_wp2_with fail
      refine CL.mono ?_
      rintro e wz ⟨rfl, Fz, hz, fz, sz⟩
      have tz : Tr F w Fz wz := lay_tr tb fz sz LO
      go_wp2
      go_ret
      exact ⟨rfl, Fz, hz, tz⟩
    · rw [if_pos e2] at hP
      have b22 : ((kdN n1 m1 : Int) != 22) = true := by simp; omega
      cases hP
      clear e2
      generalize kdN n1 m1 = K at *
      go_wp2_with fail
      refine (CI w1).mono ?_
      rintro e w1 ⟨rfl, rfl⟩
      have C3 := refuse_any h1
      clear CI
      go_wp2_with fail
      refine C3.mono ?_
      rintro e w3 ⟨rfl, f3⟩
      exact ⟨rfl, rfl, t1.ends (f3.sub (by simp))⟩

end Go.Proofs.YtekjfddcbcijdaaGreatDoor
