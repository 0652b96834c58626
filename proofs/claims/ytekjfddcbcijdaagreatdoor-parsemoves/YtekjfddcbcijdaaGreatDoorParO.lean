/-
  What the parser's calls do that read whole expressions, and statements that begin with one; conditions: the parser lies as told.
-/
import Derived.Test.YtekjfddcbcijdaaGreatDoorParN
namespace Go.Proofs.YtekjfddcbcijdaaGreatDoor
open Go.RowKit Go.Shelf
set_option linter.unusedVariables false
set_option linter.unusedSimpArgs false

set_option maxRecDepth 100000 in
set_option maxHeartbeats 2000000 in
theorem c_expr {ts : List Tok} {B pb : Nat} (hT : Toks ts) {f i : Nat} {ns : List PN} {w : World} {F : List Nat} {r : Except Nat (List Nat × Nat × List PN)} (H : Hyp ts B pb f) (h0 : PS ts B pb F i ns w) (T0 : Tabs w) (hp : preN ts i ns (.expr)) (hn : ns.length ≤ 2 * i + 1) (hP : P ts (f + 1) (.expr) i ns = some r) : Ctr ts B pb F w r (.expr) := by
  have hi := h0.ti
  have HTL : Hid (ts.length ≤ 200001) := h0.tl
  simp only [P] at hP
  have HP : Hid (_ = some r) := hP
  clear hP
  simp only [Ctr, ptr]
  have t0 := Tr.refl F w
  have HF0 : Hid (∀ k ∈ F, k < w.heap.size) := fun k hk => (h0.fb k hk).2
  have HN : Hid (ns.length ≤ 2 * i + 1) := hn
  clear hn
  rcases bindR_some HP.out with ⟨er, hr, he⟩ | ⟨v1, j1, n1, hr, hP⟩
  · subst he
    have C1 := H f (.chain 2) _ _ w _ _ (Nat.le_refl _) h0 T0 (by simp [preN]) (by have := HN.out; omega) hr
    simp only [Ctr, ptr] at C1
    go_enter Tryz.func57, Tryz.ntmps57
    go_wp2_with fail
    refine C1.mono ?_
    rintro e w1 ⟨rfl, f1⟩
    exact ⟨rfl, rfl, t0.ends f1⟩
  obtain ⟨o1a, o1b, o1c, o1d, o1e⟩ := run_ok hT (nt := .chain 2) (ns := ns) h0.ti (by simp [preN]) hr
  simp only [consN, slack] at o1a o1d
  obtain ⟨m1, rfl, hm1⟩ := o1e rfl
  have C1 := H f (.chain 2) _ _ w _ _ (Nat.le_refl _) h0 T0 (by simp [preN]) (by have := HN.out; omega) hr
  simp only [Ctr, ptr] at C1
  have HP : Hid (_ = some r) := hP
  have B1 : Hid (n1.length + 0 ≤ 2 * j1 + 1 ∧ i < j1) := by have := HN.out; unfold Hid; omega
  have q1 := o1b
  clear hP hr o1a o1b o1c o1d o1e
  go_enter Tryz.func57, Tryz.ntmps57
  go_wp2_with fail
  refine C1.mono ?_
  rintro e w1 ⟨he, F1, h1, s1⟩
  obtain rfl : e = .returned (.int .i64 (m1 : Nat)) := he
  clear C1
  have f1 := s1.f
  have t1 := t0.trans s1
  have T1 := h0.tabs T0 f1
  have C2 := next_any h1
  have CO := fun w => lineOf_any (nx ts (j1)) w
  have hP := HP.out
  clear HP
  by_cases e2 : lineL (nx ts (j1)) = 1
  · rw [if_pos e2] at hP
    rw [e2] at CO
    have HNE : Hid (preN ts (j1) n1 (.joined m1 2)) := ⟨fun e => by rw [e, lineL_nil] at e2; omega, by decide, by decide⟩
    have HP : Hid (P ts f (.joined m1 2) (j1) n1 = some r) := hP
    clear hP e2
    generalize nx ts (j1) = X at C2 CO
    go_wp2_with fail
    refine C2.mono ?_
    rintro e w2 ⟨rfl, f2⟩
    clear C2
    have h2 := h1.fr f2 (by simp)
    have t2 := t1.trans (Tr.of0 f2)
    have T2 := T1.fr f2 (by simp)
    go_wp2_with fail
    refine (CO w2).mono ?_
    rintro e w2 ⟨rfl, rfl⟩
    rcases r with er | ⟨v3, j3, n3⟩
    · have C3 := H f (.joined m1 2) _ _ w2 _ _ (Nat.le_refl _) h2 T2 HNE.out (by have := B1.out; omega) HP.out
      simp only [Ctr, ptr] at C3
      go_wp2_with fail
      refine C3.mono ?_
      rintro e w3 ⟨rfl, f3⟩
      exact ⟨rfl, rfl, t2.ends f3⟩
    · obtain ⟨_, _, _, _, oe⟩ := run_ok hT (nt := .joined m1 2) (ns := n1) h2.ti HNE.out HP.out
      obtain ⟨m3, rfl, hm3⟩ := oe rfl
      have C3 := H f (.joined m1 2) _ _ w2 _ _ (Nat.le_refl _) h2 T2 HNE.out (by have := B1.out; omega) HP.out
      simp only [Ctr, ptr] at C3
      go_wp2_with fail
      refine C3.mono ?_
      rintro e w3 ⟨he, F3, h3, s3⟩
      obtain rfl : e = .returned (.int .i64 (m3 : Nat)) := he
      go_wp2
      go_ret
      exact ⟨rfl, F3, h3, t2.trans s3⟩
  · rw [if_neg e2] at hP
    have b1 : ((lineL (nx ts (j1)) : Int) == 1) = false := beq_int_false (by omega)
    have b2 : (lineL (nx ts (j1)) == 1) = false := by simpa using e2
    cases hP
    clear e2
    generalize lineL (nx ts (j1)) = Y at *
    generalize nx ts (j1) = X at *
    go_wp2_with fail
    refine C2.mono ?_
    rintro e w2 ⟨rfl, f2⟩
    clear C2
    have h2 := h1.fr f2 (by simp)
    have t2 := t1.trans (Tr.of0 f2)
    have T2 := T1.fr f2 (by simp)
    go_wp2_with fail
    refine (CO w2).mono ?_
    rintro e w2 ⟨rfl, rfl⟩
    go_wp2
    go_ret
    exact ⟨rfl, _, h2, t2⟩


theorem PS.node {ts : List Tok} {B pb : Nat} {F : List Nat} {i : Nat} {ns : List PN} {w : World} (h : PS ts B pb F i ns w) {m : Nat} (hm : m < ns.length) : ∃ x0 x1 nb nc x3 x4 x5, w.heap[pb]? = some (.cells #[x0, x1, .slice (some ⟨nb, 0, none⟩) ns.length nc, x3, x4, x5] 49 (0, 0)) ∧ ns.length ≤ nc ∧ w.cell? ⟨nb, m * 4, none⟩ = some (.int .i64 (kdN ns m : Nat)) ∧ w.cell? ⟨nb, m * 4 + 3, none⟩ = some (.int .i64 (plN ns m : Nat)) := by
  obtain ⟨tg, tc, nv, bd, bs, bf, L, h1, h2, h3, h4, h5, h6, h7, h8, h9, h10, h11, h12, h13, h14⟩ := h.ex
  have hl : L.length = ns.length := by rw [← h11]; simp
  have hx : L[m]? = some (L[m]'(by omega)) := List.getElem?_eq_getElem _
  generalize L[m]'(by omega) = y at hx
  have hn : ns[m]? = some y.x := by rw [← h11, List.getElem?_map, hx]; rfl
  rcases h12.2 with ⟨_, e0⟩ | ⟨g, cap, cur, rfl, hb, hg, hc, hmx, hs, ht⟩
  · omega
  · have cell : ∀ j u, j < L.length * 4 → (flatM L)[j]? = some u → w.cell? ⟨g, j, none⟩ = some u := fun j u hj hu => by
      have : (cur.toList.take (L.length * 4))[j]? = (flatM L)[j]? := by rw [ht]
      rw [List.getElem?_take_of_lt hj, hu] at this
      simp only [World.cell?, hg]
      simpa using this
    refine ⟨_, _, g, cap, _, _, _, by rw [hl] at h1; exact h1, by omega, ?_, ?_⟩
    · have := cell (m * 4 + 0) _ (by omega) (flatM_get hx 0 (by decide))
      rw [show kdN ns m = y.x.kind by unfold kdN; rw [hn]]
      exact this
    · have := cell (m * 4 + 3) _ (by omega) (flatM_get hx 3 (by decide))
      rw [show plN ns m = y.x.pl by unfold plN; rw [hn]]
      exact this

end Go.Proofs.YtekjfddcbcijdaaGreatDoor
