/-
  A trace goes out of the document's cache: its row; condition: the cache lies as told.
-/
import Derived.Test.YtnhjplfdfbbihaaCcF
namespace Go.Proofs.Ytnhjplfdfbbihaa
open Go.RowKit Go.Shelf Go.Maps Go.ChangeShapes
set_option linter.unusedVariables false
set_option linter.unusedSimpArgs false
theorem cu45r : Try.prog.underlying 45 = some (.slice 52) := by kernel_rfl
theorem elem45 : Try.prog.elem 45 = 52 := by kernel_rfl
theorem cu45e : Try.prog.underlying 45 = some (.slice (Try.prog.elem 45)) := by kernel_rfl
theorem ci52 : (Try.prog.info? 52).map (fun i => (i.zero, i.size, i.bytes)) = some (some (ev (0, tr0)), 18, 224) := by kernel_rfl
theorem flatR_one (L : List Rt) : ∀ u ∈ flatR L, u.oneCell' = true := by
  intro u hu
  obtain ⟨x, _, hx⟩ := List.mem_flatMap.1 hu
  rcases List.mem_cons.1 (show u ∈ evl x from hx) with rfl | h
  · rfl
  · exact x.2.cl_one u h
theorem flatR_app (L M : List Rt) : flatR (L ++ M) = flatR L ++ flatR M := by unfold flatR; rw [List.flatMap_append]
theorem erase_split (L : List Rt) (i : Nat) : L.eraseIdx i = L.take i ++ L.drop (i + 1) := List.eraseIdx_eq_take_drop_succ ..
theorem rowR_cell {w : World} {B g c n : Nat} {L : List Rt} (h : w.ownsRow B 52 18 (.slice (some ⟨g, 0, none⟩) n c) L.length (flatR L)) {j : Nat} {v : Value} (hv : (flatR L)[j]? = some v) : w.cell? ⟨g, j, none⟩ = some v := by
  obtain ⟨g', c', e1, hc, _⟩ := own_cells h hv
  cases e1
  exact hc
theorem take_cell {L : List Rt} {i j : Nat} {v : Value} (h : (flatR (L.take i))[j]? = some v) : (flatR L)[j]? = some v := by
  have e : flatR L = flatR (L.take i) ++ flatR (L.drop i) := by rw [← flatR_app, List.take_append_drop]
  rw [e, List.getElem?_append_left (List.getElem?_eq_some_iff.1 h).1]
  exact h
theorem drop_cell {L : List Rt} {i j : Nat} (hi : i ≤ L.length) {v : Value} (h : (flatR (L.drop i))[j]? = some v) : (flatR L)[i * 18 + j]? = some v := by
  have e : flatR L = flatR (L.take i) ++ flatR (L.drop i) := by rw [← flatR_app, List.take_append_drop]
  rw [e, List.getElem?_append_right (by rw [flatR_len, List.length_take]; have := Nat.min_eq_left hi; rw [this]; omega), flatR_len, List.length_take, Nat.min_eq_left hi]
  rw [show i * 18 + j - i * 18 = j by omega]
  exact h
set_option maxRecDepth 100000 in
set_option maxHeartbeats 8000000 in
theorem gone_rows {W : World} {B c : Nat} {rv nv : Value} {lim : Nat} {pa : Option Addr} {pcap : Nat} {pf : List Int} {used last top : Nat} {rs : List Rt} {ns : List Nt} (hP : RP W B c rv nv lim pa pcap pf used last top rs ns) (hBW : B ≤ W.heap.size) (hl : rs.length ≤ 1000) {i : Nat} (hi : i < rs.length) {Q : Exit → Act → World → Prop} {u2 u3 u4 u5 u6 u7 u8 u9 u10 u11 u12 u13 u14 u15 u16 u17 u18 u19 u20 u21 u22 u23 u24 u25 u26 u27 u28 u29 u30 u31 u32 u33 u34 u35 u36 u37 u38 u39 u40 u41 u42 u43 u44 u45 u46 u47 u48 u49 u50 u51 u52 u53 u54 u55 u56 u57 u58 u59 u60 : Value}
    (hQ : Hid (∀ W2 rv', RP W2 B c rv' nv lim pa pcap pf used last top (rs.eraseIdx i) ns → Gm B pR false W W2 → ∀ n16 n17 n18 n19 n20 n21 n22 n23 n24 n25 n26 n27 n28 n29 n30 n31 n32 n33, Q .normal { tmps := #[.pointer (some ⟨c, 0, none⟩), .int .i64 i, u2, u3, u4, u5, u6, u7, u8, u9, u10, u11, u12, u13, u14, u15, n16, n17, n18, n19, n20, n21, n22, n23, n24, n25, n26, n27, n28, n29, n30, n31, n32, n33, u34, u35, u36, u37, u38, u39, u40, u41, u42, u43, u44, u45, u46, u47, u48, u49, u50, u51, u52, u53, u54, u55, u56, u57, u58, u59, u60], defers := [] } W2)) :
    (sub Try.f37 [1, 0]).wp Try.prog Q { tmps := #[.pointer (some ⟨c, 0, none⟩), .int .i64 i, u2, u3, u4, u5, u6, u7, u8, u9, u10, u11, u12, u13, u14, u15, u16, u17, u18, u19, u20, u21, u22, u23, u24, u25, u26, u27, u28, u29, u30, u31, u32, u33, u34, u35, u36, u37, u38, u39, u40, u41, u42, u43, u44, u45, u46, u47, u48, u49, u50, u51, u52, u53, u54, u55, u56, u57, u58, u59, u60], defers := [] } W := by
  obtain ⟨ra, rc, rfl, _⟩ := own_slice hP.rows
  have HP : Hid (RP W B c (.slice ra rs.length rc) nv lim pa pcap pf used last top rs ns ∧ B ≤ W.heap.size ∧ rs.length ≤ 1000 ∧ i < rs.length) := ⟨hP, hBW, hl, hi⟩
  obtain ⟨g, rfl⟩ : ∃ g, ra = some ⟨g, 0, none⟩ := by
    obtain ⟨g, c', e1, _⟩ := own_cells hP.rows (j := i * 18) (List.getElem?_eq_getElem (by rw [flatR_len]; omega))
    cases e1; exact ⟨g, rfl⟩
  have hcap : rs.length ≤ rc := by
    rcases hP.rows.2 with ⟨e1, _⟩ | ⟨g', cp, cur, e1, _, _, h3, _⟩
    · cases e1
    · cases e1; exact h3
  obtain ⟨N, hN⟩ : ∃ N, rs.length = N := ⟨_, rfl⟩
  have HN : Hid (rs.length = N) := hN
  have HBN : Hid (i + (N - (i + 1)) ≤ 1000) := by show _ ≤ _; omega
  rw [hN] at hcap hi
  have LC : Hid (∀ w', Fr [] W w' → w'.cell? ⟨c, 0, none⟩ = some (.slice (some ⟨g, 0, none⟩) N rc)) := fun w' f => by rw [← hN]; exact f.cellNew hP.blk (by simp) rfl
  obtain ⟨ie, i1, i2, i3, i4⟩ := info_parts ci52
  have HIE : Hid (Try.prog.info? 52 = some ie ∧ ie.zero = some (ev (0, tr0)) ∧ ie.size = 18 ∧ ie.bytes = 224) := ⟨i1, i2, i3, i4⟩
  have hiI : (i : Int) < (N : Int) := by omega
  have hi1 : (i : Int) + 1 ≤ 1000 := by omega
  have hwi : IntKind.i64.wrap ((i : Int) + 1) = (i : Int) + 1 := by rw [IntWalk.i64_left, IntWalk.wrap64_in _ (by omega)]
  have hic : (i : Int) ≤ (rc : Int) := by omega
  have hic1 : (i : Int) + 1 ≤ (N : Int) := by omega
  have hNc : (N : Int) ≤ (rc : Int) := by omega
  clear hP hl hN i1 i2 i3 i4 hBW
  dsimp only [sub, nav, kid, Try.f37, Option.getD, if_true, if_false]
  obtain ⟨ao, hao⟩ : ∃ ao : Option Addr, ao = if rc = i + 1 then some ⟨g, 0, none⟩ else some ⟨g, (i + 1) * 18, none⟩ := ⟨_, rfl⟩
  have HAO : Hid (ao = if rc = i + 1 then some ⟨g, 0, none⟩ else some ⟨g, (i + 1) * 18, none⟩) := hao
  have hsl : ∀ w, (Instr.slice 45 (.slice (some ⟨g, 0, none⟩) N rc) (some (.int .i64 ((i : Int) + 1))) none none).run Try.prog w = .ok (.slice ao (N - (i + 1)) (rc - (i + 1))) w := fun w => by
    have e1 : ((i : Int) + 1).toNat = i + 1 := by omega
    have h1 := run_slice_l (P := Try.prog) w 45 (some ⟨g, 0, none⟩) N rc cu45e .i64 ((i : Int) + 1) (by omega) (by omega)
    rw [h1, e1, hao]
    simp [sliced, Try.sizeOf52, Result.andThen, Addr.add_lit, elem45]
  clear hao
  have hF : Fr [] W W.drew := (Fr.refl _ _).drew
  have hS : True := trivial
  refine reg_in (fun _ => True) ?_
  generalize W.drew = Y at *
  refine tk 0 (some 16) (.pointer (some ⟨c, 0, none⟩)) rfl rfl (Or.inl ⟨rfl, fun wq hSq => by first | rfl | go_simp⟩) (by decide +kernel) hS ?_
  simp only [Act.put, List.setIfInBounds_toArray, List.set_cons_zero, List.set_cons_succ]
  refine tk 1 (some 17) (.pointer (some ⟨c, 0, none⟩)) rfl rfl (Or.inl ⟨rfl, fun wq hSq => by first | rfl | go_simp⟩) (by decide +kernel) hS ?_
  simp only [Act.put, List.setIfInBounds_toArray, List.set_cons_zero, List.set_cons_succ]
  refine tk 2 (some 18) (.pointer (some ⟨c, 0, none⟩)) rfl rfl (Or.inl ⟨rfl, fun wq hSq => by first | rfl | go_simp⟩) (by decide +kernel) hS ?_
  simp only [Act.put, List.setIfInBounds_toArray, List.set_cons_zero, List.set_cons_succ]
  refine tk 3 (some 19) (.pointer (some ⟨c, 0, none⟩)) rfl rfl (Or.inl ⟨rfl, fun wq hSq => by first | rfl | go_simp⟩) (by decide +kernel) hS ?_
  simp only [Act.put, List.setIfInBounds_toArray, List.set_cons_zero, List.set_cons_succ]
  refine tk 5 (some 21) (.int .i64 i) rfl rfl (Or.inl ⟨rfl, fun wq hSq => by first | rfl | go_simp⟩) (by decide +kernel) hS ?_
  simp only [Act.put, List.setIfInBounds_toArray, List.set_cons_zero, List.set_cons_succ]
  refine tk 8 (some 24) (.pointer (some ⟨c, 0, none⟩)) rfl rfl (Or.inl ⟨rfl, fun wq hSq => by first | rfl | go_simp⟩) (by decide +kernel) hS ?_
  simp only [Act.put, List.setIfInBounds_toArray, List.set_cons_zero, List.set_cons_succ]
  refine tk 9 (some 25) (.pointer (some ⟨c, 0, none⟩)) rfl rfl (Or.inl ⟨rfl, fun wq hSq => by first | rfl | go_simp⟩) (by decide +kernel) hS ?_
  simp only [Act.put, List.setIfInBounds_toArray, List.set_cons_zero, List.set_cons_succ]
  refine tk 10 (some 26) (.pointer (some ⟨c, 0, none⟩)) rfl rfl (Or.inl ⟨rfl, fun wq hSq => by first | rfl | go_simp⟩) (by decide +kernel) hS ?_
  simp only [Act.put, List.setIfInBounds_toArray, List.set_cons_zero, List.set_cons_succ]
  refine tk 12 (some 28) (.int .i64 i) rfl rfl (Or.inl ⟨rfl, fun wq hSq => by first | rfl | go_simp⟩) (by decide +kernel) hS ?_
  simp only [Act.put, List.setIfInBounds_toArray, List.set_cons_zero, List.set_cons_succ]
  refine tk 13 (some 29) (.int .i64 ((i : Int) + 1)) rfl rfl (Or.inl ⟨rfl, fun wq hSq => by go_simp⟩) (by decide +kernel) hS ?_
  simp only [Act.put, List.setIfInBounds_toArray, List.set_cons_zero, List.set_cons_succ]
  refine wpAnyH_ready (rs := [4, 11]) (by decide +kernel) (by simp) ?_
  refine AllReadyH.cons rfl (fun K hK => ?_) ?_
  · skip
    have q := LC.out _ hF
    go_simp
    clear q
    refine hK.out _ _ hS (fun _ => ?_)
    clear hK K
    try simp only [List.getElem_toArray, List.getElem_cons_succ, List.getElem_cons_zero, Act.put, List.setIfInBounds_toArray, List.set_cons_zero, List.set_cons_succ]
    refine tk 6 (some 22) (.slice (some ⟨g, 0, none⟩) i rc) rfl rfl (Or.inl ⟨rfl, fun wq hSq => by go_simp⟩) (by decide +kernel) hS ?_
    simp only [Act.put, List.setIfInBounds_toArray, List.set_cons_zero, List.set_cons_succ]
    refine wpAnyH_ready (rs := [7, 11]) (by decide +kernel) (by simp) ?_
    refine AllReadyH.cons rfl (fun K hK => ?_) ?_
    · skip
      refine step_append_src rfl (.const (.slice none 0 0)) (.tmp 22) 45 rfl W.heap.size 52 ie (ev (0, tr0)) 18 224 cu45r HIE.out.1 HIE.out.2.1 HIE.out.2.2.1 HIE.out.2.2.2 (by kernel_rfl) (by decide) (.slice none 0 0) 0 [] rfl (World.ownsRow_nil _ _ _ _) (some ⟨g, 0, none⟩) i rc (flatR (rs.take i)) rfl (by rw [flatR_len, List.length_take, Nat.min_eq_left (by have := HP.out.2.2.2; omega)]) (fun e => by cases e) (fun ad e => by cases e; intro j u hu; rw [Addr.add_lit, Nat.zero_add]; exact rowR_cell (own_fr HP.out.1.rows hF (by simp)) (take_cell hu)) (flatR_one _) (by have := HP.out.2.2; simp only [maxLen]; omega) (by have := HP.out.2.2; omega) hF.size ?_
      intro v1 X1 o1 g1 l1
      rw [Nat.zero_add, List.nil_append] at o1
      obtain ⟨va, vc, rfl, _⟩ := own_slice o1
      have hF := hF.trans (Fr.ofGrown g1)
      have HO1 : Hid (X1.ownsRow W.heap.size 52 18 (.slice va i vc) i (flatR (rs.take i))) := o1
      clear o1 g1 l1
      refine hK.out _ _ hS (fun _ => ?_)
      clear hK K
      try simp only [List.getElem_toArray, List.getElem_cons_succ, List.getElem_cons_zero, Act.put, List.setIfInBounds_toArray, List.set_cons_zero, List.set_cons_succ]
      refine wpAnyH_ready (rs := [11]) (by decide +kernel) (by simp) ?_
      refine AllReadyH.cons rfl (fun K hK => ?_) AllReadyH.nil
      have q := LC.out _ hF
      go_simp
      clear q
      refine hK.out _ _ hS (fun _ => ?_)
      clear hK K
      try simp only [List.getElem_toArray, List.getElem_cons_succ, List.getElem_cons_zero, Act.put, List.setIfInBounds_toArray, List.set_cons_zero, List.set_cons_succ]
      refine tk 14 (some 30) (.slice ao (N - (i + 1)) (rc - (i + 1))) rfl rfl (Or.inl ⟨rfl, fun wq hSq => by have q := hsl wq; go_simp⟩) (by decide +kernel) hS ?_
      simp only [Act.put, List.setIfInBounds_toArray, List.set_cons_zero, List.set_cons_succ]
      refine wpAnyH_ready (rs := [15]) (by decide +kernel) (by simp) ?_
      refine AllReadyH.cons rfl (fun K hK => ?_) AllReadyH.nil
      have hdl : (flatR (rs.drop (i + 1))).length = (N - (i + 1)) * 18 := by rw [flatR_len, List.length_drop, HN.out]
      have hnone : ao = none → N - (i + 1) = 0 ∧ rc - (i + 1) = 0 := fun e => by rw [HAO.out] at e; split at e <;> cases e
      have hcs : ∀ ad, ao = some ad → ∀ (j : Nat) u, (flatR (rs.drop (i + 1)))[j]? = some u → X1.cell? (ad.add j) = some u := fun ad e j u hu => by
        have hjl := (List.getElem?_eq_some_iff.1 hu).1
        have hne : ¬ rc = i + 1 := fun e2 => by rw [hdl] at hjl; have := HP.out.2.2.2; omega
        rw [HAO.out, if_neg hne] at e
        cases e
        rw [Addr.add_lit]
        exact rowR_cell (own_fr HP.out.1.rows hF (by simp)) (drop_cell (by have := HP.out.2.2.2; omega) hu)
      refine step_append_src rfl (.tmp 23) (.tmp 30) 45 rfl W.heap.size 52 ie (ev (0, tr0)) 18 224 cu45r HIE.out.1 HIE.out.2.1 HIE.out.2.2.1 HIE.out.2.2.2 (by kernel_rfl) (by decide) (.slice va i vc) i (flatR (rs.take i)) rfl HO1.out ao (N - (i + 1)) (rc - (i + 1)) (flatR (rs.drop (i + 1))) rfl hdl hnone hcs (flatR_one _) (by have := HBN.out; simp only [maxLen]; omega) (by have := HBN.out; omega) hF.size ?_
      intro v2 X2 o2 g2 l2
      rw [← flatR_app, ← erase_split] at o2
      have hN2 : i + (N - (i + 1)) = (rs.eraseIdx i).length := by rw [List.length_eraseIdx_of_lt HP.out.2.2.2, HN.out]; have := HP.out.2.2.2; omega
      rw [hN2] at o2
      obtain ⟨N2, hN2e⟩ : ∃ N2, (rs.eraseIdx i).length = N2 := ⟨_, rfl⟩
      rw [hN2e] at o2
      obtain ⟨vb, vd, rfl, _⟩ := own_slice o2
      have hF2 : Fr [] W X2 := hF.grown g2 (fun k e => .inr (HO1.out.lt k e).1)
      have HO2 : Hid (X2.ownsRow W.heap.size 52 18 (.slice vb N2 vd) N2 (flatR (rs.eraseIdx i)) ∧ (rs.eraseIdx i).length = N2 ∧ Fr [] W X2) := ⟨o2, hN2e, hF2⟩
      have q0 : X2.cell? ⟨c, 0, none⟩ = some (.slice (some ⟨g, 0, none⟩) N rc) := LC.out _ hF2
      have z0 : X2.frozen? ⟨c, 0, none⟩ = false := frz ((hF2.block _ (Array.getElem?_eq_some_iff.1 HP.out.1.blk).1 (by simp)).trans HP.out.1.blk)
      clear o2 g2 l2 hN2 hN2e hF hF2 hdl hnone hcs
      refine hK.out _ _ hS (fun _ => ?_)
      clear hK K
      try simp only [List.getElem_toArray, List.getElem_cons_succ, List.getElem_cons_zero, Act.put, List.setIfInBounds_toArray, List.set_cons_zero, List.set_cons_succ]
      refine tk 16 (some 32) (.pointer (some ⟨c, 0, none⟩)) rfl rfl (Or.inl ⟨rfl, fun wq hSq => by first | rfl | go_simp⟩) (by decide +kernel) hS ?_
      simp only [Act.put, List.setIfInBounds_toArray, List.set_cons_zero, List.set_cons_succ]
      refine tk 17 (some 33) (.pointer (some ⟨c, 0, none⟩)) rfl rfl (Or.inl ⟨rfl, fun wq hSq => by first | rfl | go_simp⟩) (by decide +kernel) hS ?_
      simp only [Act.put, List.setIfInBounds_toArray, List.set_cons_zero, List.set_cons_succ]
      refine wpAnyH_ready (rs := [18]) (by decide +kernel) (by simp) ?_
      refine AllReadyH.cons rfl (fun K hK => ?_) AllReadyH.nil
      go_simp
      clear q0 z0
      refine hK.out _ _ hS (fun _ => ?_)
      clear hK K
      try simp only [List.getElem_toArray, List.getElem_cons_succ, List.getElem_cons_zero, Act.put, List.setIfInBounds_toArray, List.set_cons_zero, List.set_cons_succ]
      refine wpAnyH_done (by decide +kernel) ?_ _
      refine plain_end ?_
      have hbX := (HO2.out.2.2.block _ (Array.getElem?_eq_some_iff.1 HP.out.1.blk).1 (by simp)).trans HP.out.1.blk
      have f3 : Fr [c] X2 (X2.setCell ⟨c, 0, none⟩ (.slice vb N2 vd)) := (Fr.refl _ _).setCell (.inl (by simp)) _
      have hb3 := set_blk (i := 0) (v := .slice vb N2 vd) hbX
      have hA : Away X2 B [c] := away_cells hbX rfl HP.out.1.cB
      have hno : ∀ k, nv.ownBlock = some k → k ∉ [c] := fun k hk hm => by
        have : k = c := by simpa using hm
        subst this
        exact own_ne (own_fr HP.out.1.notes HO2.out.2.2 (by simp)) hbX (by decide) hk
      have hro : ∀ k, (Value.slice vb N2 vd).ownBlock = some k → k ∉ [c] := fun k hk hm => by
        have : k = c := by simpa using hm
        subst this
        exact own_ne HO2.out.1 hbX (by decide) hk
      refine hQ.out _ (.slice vb N2 vd) ⟨hb3, by rw [HO2.out.2.1]; exact own_fr (own_low HO2.out.1 HP.out.2.1) f3 hro, own_fr (own_fr HP.out.1.notes HO2.out.2.2 (by simp)) f3 hno, (HP.out.1.pick.fr HO2.out.2.2 (Away.nil _ _)).fr f3 hA, fun r hr => ((HP.out.1.trs r (List.mem_of_mem_eraseIdx hr)).fr0 HO2.out.2.2).fr f3 hA, HP.out.1.cB⟩ ((Gm.ofFr0 HO2.out.2.2).trans (Gm.ofFr f3 (fun k hm => by
        have : k = c := by simpa using hm
        subst this
        exact .inr ⟨HP.out.1.cB, .inl ⟨_, _, _, hbX, rfl⟩⟩))) _ _ _ _ _ _ _ _ _ _ _ _ _ _ _ _ _ _
    refine AllReadyH.cons rfl (fun K hK => ?_) AllReadyH.nil
    have q := LC.out _ hF
    go_simp
    clear q
    refine hK.out _ _ hS (fun _ => ?_)
    clear hK K
    try simp only [List.getElem_toArray, List.getElem_cons_succ, List.getElem_cons_zero, Act.put, List.setIfInBounds_toArray, List.set_cons_zero, List.set_cons_succ]
    refine tk 14 (some 30) (.slice ao (N - (i + 1)) (rc - (i + 1))) rfl rfl (Or.inl ⟨rfl, fun wq hSq => by have q := hsl wq; go_simp⟩) (by decide +kernel) hS ?_
    simp only [Act.put, List.setIfInBounds_toArray, List.set_cons_zero, List.set_cons_succ]
    refine wpAnyH_ready (rs := [7]) (by decide +kernel) (by simp) ?_
    refine AllReadyH.cons rfl (fun K hK => ?_) AllReadyH.nil
    refine step_append_src rfl (.const (.slice none 0 0)) (.tmp 22) 45 rfl W.heap.size 52 ie (ev (0, tr0)) 18 224 cu45r HIE.out.1 HIE.out.2.1 HIE.out.2.2.1 HIE.out.2.2.2 (by kernel_rfl) (by decide) (.slice none 0 0) 0 [] rfl (World.ownsRow_nil _ _ _ _) (some ⟨g, 0, none⟩) i rc (flatR (rs.take i)) rfl (by rw [flatR_len, List.length_take, Nat.min_eq_left (by have := HP.out.2.2.2; omega)]) (fun e => by cases e) (fun ad e => by cases e; intro j u hu; rw [Addr.add_lit, Nat.zero_add]; exact rowR_cell (own_fr HP.out.1.rows hF (by simp)) (take_cell hu)) (flatR_one _) (by have := HP.out.2.2; simp only [maxLen]; omega) (by have := HP.out.2.2; omega) hF.size ?_
    intro v1 X1 o1 g1 l1
    rw [Nat.zero_add, List.nil_append] at o1
    obtain ⟨va, vc, rfl, _⟩ := own_slice o1
    have hF := hF.trans (Fr.ofGrown g1)
    have HO1 : Hid (X1.ownsRow W.heap.size 52 18 (.slice va i vc) i (flatR (rs.take i))) := o1
    clear o1 g1 l1
    refine hK.out _ _ hS (fun _ => ?_)
    clear hK K
    try simp only [List.getElem_toArray, List.getElem_cons_succ, List.getElem_cons_zero, Act.put, List.setIfInBounds_toArray, List.set_cons_zero, List.set_cons_succ]
    refine wpAnyH_ready (rs := [15]) (by decide +kernel) (by simp) ?_
    refine AllReadyH.cons rfl (fun K hK => ?_) AllReadyH.nil
    have hdl : (flatR (rs.drop (i + 1))).length = (N - (i + 1)) * 18 := by rw [flatR_len, List.length_drop, HN.out]
    have hnone : ao = none → N - (i + 1) = 0 ∧ rc - (i + 1) = 0 := fun e => by rw [HAO.out] at e; split at e <;> cases e
    have hcs : ∀ ad, ao = some ad → ∀ (j : Nat) u, (flatR (rs.drop (i + 1)))[j]? = some u → X1.cell? (ad.add j) = some u := fun ad e j u hu => by
      have hjl := (List.getElem?_eq_some_iff.1 hu).1
      have hne : ¬ rc = i + 1 := fun e2 => by rw [hdl] at hjl; have := HP.out.2.2.2; omega
      rw [HAO.out, if_neg hne] at e
      cases e
      rw [Addr.add_lit]
      exact rowR_cell (own_fr HP.out.1.rows hF (by simp)) (drop_cell (by have := HP.out.2.2.2; omega) hu)
    refine step_append_src rfl (.tmp 23) (.tmp 30) 45 rfl W.heap.size 52 ie (ev (0, tr0)) 18 224 cu45r HIE.out.1 HIE.out.2.1 HIE.out.2.2.1 HIE.out.2.2.2 (by kernel_rfl) (by decide) (.slice va i vc) i (flatR (rs.take i)) rfl HO1.out ao (N - (i + 1)) (rc - (i + 1)) (flatR (rs.drop (i + 1))) rfl hdl hnone hcs (flatR_one _) (by have := HBN.out; simp only [maxLen]; omega) (by have := HBN.out; omega) hF.size ?_
    intro v2 X2 o2 g2 l2
    rw [← flatR_app, ← erase_split] at o2
    have hN2 : i + (N - (i + 1)) = (rs.eraseIdx i).length := by rw [List.length_eraseIdx_of_lt HP.out.2.2.2, HN.out]; have := HP.out.2.2.2; omega
    rw [hN2] at o2
    obtain ⟨N2, hN2e⟩ : ∃ N2, (rs.eraseIdx i).length = N2 := ⟨_, rfl⟩
    rw [hN2e] at o2
    obtain ⟨vb, vd, rfl, _⟩ := own_slice o2
    have hF2 : Fr [] W X2 := hF.grown g2 (fun k e => .inr (HO1.out.lt k e).1)
    have HO2 : Hid (X2.ownsRow W.heap.size 52 18 (.slice vb N2 vd) N2 (flatR (rs.eraseIdx i)) ∧ (rs.eraseIdx i).length = N2 ∧ Fr [] W X2) := ⟨o2, hN2e, hF2⟩
    have q0 : X2.cell? ⟨c, 0, none⟩ = some (.slice (some ⟨g, 0, none⟩) N rc) := LC.out _ hF2
    have z0 : X2.frozen? ⟨c, 0, none⟩ = false := frz ((hF2.block _ (Array.getElem?_eq_some_iff.1 HP.out.1.blk).1 (by simp)).trans HP.out.1.blk)
    clear o2 g2 l2 hN2 hN2e hF hF2 hdl hnone hcs
    refine hK.out _ _ hS (fun _ => ?_)
    clear hK K
    try simp only [List.getElem_toArray, List.getElem_cons_succ, List.getElem_cons_zero, Act.put, List.setIfInBounds_toArray, List.set_cons_zero, List.set_cons_succ]
    refine tk 16 (some 32) (.pointer (some ⟨c, 0, none⟩)) rfl rfl (Or.inl ⟨rfl, fun wq hSq => by first | rfl | go_simp⟩) (by decide +kernel) hS ?_
    simp only [Act.put, List.setIfInBounds_toArray, List.set_cons_zero, List.set_cons_succ]
    refine tk 17 (some 33) (.pointer (some ⟨c, 0, none⟩)) rfl rfl (Or.inl ⟨rfl, fun wq hSq => by first | rfl | go_simp⟩) (by decide +kernel) hS ?_
    simp only [Act.put, List.setIfInBounds_toArray, List.set_cons_zero, List.set_cons_succ]
    refine wpAnyH_ready (rs := [18]) (by decide +kernel) (by simp) ?_
    refine AllReadyH.cons rfl (fun K hK => ?_) AllReadyH.nil
    go_simp
    clear q0 z0
    refine hK.out _ _ hS (fun _ => ?_)
    clear hK K
    try simp only [List.getElem_toArray, List.getElem_cons_succ, List.getElem_cons_zero, Act.put, List.setIfInBounds_toArray, List.set_cons_zero, List.set_cons_succ]
    refine wpAnyH_done (by decide +kernel) ?_ _
    refine plain_end ?_
    have hbX := (HO2.out.2.2.block _ (Array.getElem?_eq_some_iff.1 HP.out.1.blk).1 (by simp)).trans HP.out.1.blk
    have f3 : Fr [c] X2 (X2.setCell ⟨c, 0, none⟩ (.slice vb N2 vd)) := (Fr.refl _ _).setCell (.inl (by simp)) _
    have hb3 := set_blk (i := 0) (v := .slice vb N2 vd) hbX
    have hA : Away X2 B [c] := away_cells hbX rfl HP.out.1.cB
    have hno : ∀ k, nv.ownBlock = some k → k ∉ [c] := fun k hk hm => by
      have : k = c := by simpa using hm
      subst this
      exact own_ne (own_fr HP.out.1.notes HO2.out.2.2 (by simp)) hbX (by decide) hk
    have hro : ∀ k, (Value.slice vb N2 vd).ownBlock = some k → k ∉ [c] := fun k hk hm => by
      have : k = c := by simpa using hm
      subst this
      exact own_ne HO2.out.1 hbX (by decide) hk
    refine hQ.out _ (.slice vb N2 vd) ⟨hb3, by rw [HO2.out.2.1]; exact own_fr (own_low HO2.out.1 HP.out.2.1) f3 hro, own_fr (own_fr HP.out.1.notes HO2.out.2.2 (by simp)) f3 hno, (HP.out.1.pick.fr HO2.out.2.2 (Away.nil _ _)).fr f3 hA, fun r hr => ((HP.out.1.trs r (List.mem_of_mem_eraseIdx hr)).fr0 HO2.out.2.2).fr f3 hA, HP.out.1.cB⟩ ((Gm.ofFr0 HO2.out.2.2).trans (Gm.ofFr f3 (fun k hm => by
      have : k = c := by simpa using hm
      subst this
      exact .inr ⟨HP.out.1.cB, .inl ⟨_, _, _, hbX, rfl⟩⟩))) _ _ _ _ _ _ _ _ _ _ _ _ _ _ _ _ _ _
  refine AllReadyH.cons rfl (fun K hK => ?_) AllReadyH.nil
  have q := LC.out _ hF
  go_simp
  clear q
  refine hK.out _ _ hS (fun _ => ?_)
  clear hK K
  try simp only [List.getElem_toArray, List.getElem_cons_succ, List.getElem_cons_zero, Act.put, List.setIfInBounds_toArray, List.set_cons_zero, List.set_cons_succ]
  refine tk 14 (some 30) (.slice ao (N - (i + 1)) (rc - (i + 1))) rfl rfl (Or.inl ⟨rfl, fun wq hSq => by have q := hsl wq; go_simp⟩) (by decide +kernel) hS ?_
  simp only [Act.put, List.setIfInBounds_toArray, List.set_cons_zero, List.set_cons_succ]
  refine wpAnyH_ready (rs := [4]) (by decide +kernel) (by simp) ?_
  refine AllReadyH.cons rfl (fun K hK => ?_) AllReadyH.nil
  have q := LC.out _ hF
  go_simp
  clear q
  refine hK.out _ _ hS (fun _ => ?_)
  clear hK K
  try simp only [List.getElem_toArray, List.getElem_cons_succ, List.getElem_cons_zero, Act.put, List.setIfInBounds_toArray, List.set_cons_zero, List.set_cons_succ]
  refine tk 6 (some 22) (.slice (some ⟨g, 0, none⟩) i rc) rfl rfl (Or.inl ⟨rfl, fun wq hSq => by go_simp⟩) (by decide +kernel) hS ?_
  simp only [Act.put, List.setIfInBounds_toArray, List.set_cons_zero, List.set_cons_succ]
  refine wpAnyH_ready (rs := [7]) (by decide +kernel) (by simp) ?_
  refine AllReadyH.cons rfl (fun K hK => ?_) AllReadyH.nil
  refine step_append_src rfl (.const (.slice none 0 0)) (.tmp 22) 45 rfl W.heap.size 52 ie (ev (0, tr0)) 18 224 cu45r HIE.out.1 HIE.out.2.1 HIE.out.2.2.1 HIE.out.2.2.2 (by kernel_rfl) (by decide) (.slice none 0 0) 0 [] rfl (World.ownsRow_nil _ _ _ _) (some ⟨g, 0, none⟩) i rc (flatR (rs.take i)) rfl (by rw [flatR_len, List.length_take, Nat.min_eq_left (by have := HP.out.2.2.2; omega)]) (fun e => by cases e) (fun ad e => by cases e; intro j u hu; rw [Addr.add_lit, Nat.zero_add]; exact rowR_cell (own_fr HP.out.1.rows hF (by simp)) (take_cell hu)) (flatR_one _) (by have := HP.out.2.2; simp only [maxLen]; omega) (by have := HP.out.2.2; omega) hF.size ?_
  intro v1 X1 o1 g1 l1
  rw [Nat.zero_add, List.nil_append] at o1
  obtain ⟨va, vc, rfl, _⟩ := own_slice o1
  have hF := hF.trans (Fr.ofGrown g1)
  have HO1 : Hid (X1.ownsRow W.heap.size 52 18 (.slice va i vc) i (flatR (rs.take i))) := o1
  clear o1 g1 l1
  refine hK.out _ _ hS (fun _ => ?_)
  clear hK K
  try simp only [List.getElem_toArray, List.getElem_cons_succ, List.getElem_cons_zero, Act.put, List.setIfInBounds_toArray, List.set_cons_zero, List.set_cons_succ]
  refine wpAnyH_ready (rs := [15]) (by decide +kernel) (by simp) ?_
  refine AllReadyH.cons rfl (fun K hK => ?_) AllReadyH.nil
  have hdl : (flatR (rs.drop (i + 1))).length = (N - (i + 1)) * 18 := by rw [flatR_len, List.length_drop, HN.out]
  have hnone : ao = none → N - (i + 1) = 0 ∧ rc - (i + 1) = 0 := fun e => by rw [HAO.out] at e; split at e <;> cases e
  have hcs : ∀ ad, ao = some ad → ∀ (j : Nat) u, (flatR (rs.drop (i + 1)))[j]? = some u → X1.cell? (ad.add j) = some u := fun ad e j u hu => by
    have hjl := (List.getElem?_eq_some_iff.1 hu).1
    have hne : ¬ rc = i + 1 := fun e2 => by rw [hdl] at hjl; have := HP.out.2.2.2; omega
    rw [HAO.out, if_neg hne] at e
    cases e
    rw [Addr.add_lit]
    exact rowR_cell (own_fr HP.out.1.rows hF (by simp)) (drop_cell (by have := HP.out.2.2.2; omega) hu)
  refine step_append_src rfl (.tmp 23) (.tmp 30) 45 rfl W.heap.size 52 ie (ev (0, tr0)) 18 224 cu45r HIE.out.1 HIE.out.2.1 HIE.out.2.2.1 HIE.out.2.2.2 (by kernel_rfl) (by decide) (.slice va i vc) i (flatR (rs.take i)) rfl HO1.out ao (N - (i + 1)) (rc - (i + 1)) (flatR (rs.drop (i + 1))) rfl hdl hnone hcs (flatR_one _) (by have := HBN.out; simp only [maxLen]; omega) (by have := HBN.out; omega) hF.size ?_
  intro v2 X2 o2 g2 l2
  rw [← flatR_app, ← erase_split] at o2
  have hN2 : i + (N - (i + 1)) = (rs.eraseIdx i).length := by rw [List.length_eraseIdx_of_lt HP.out.2.2.2, HN.out]; have := HP.out.2.2.2; omega
  rw [hN2] at o2
  obtain ⟨N2, hN2e⟩ : ∃ N2, (rs.eraseIdx i).length = N2 := ⟨_, rfl⟩
  rw [hN2e] at o2
  obtain ⟨vb, vd, rfl, _⟩ := own_slice o2
  have hF2 : Fr [] W X2 := hF.grown g2 (fun k e => .inr (HO1.out.lt k e).1)
  have HO2 : Hid (X2.ownsRow W.heap.size 52 18 (.slice vb N2 vd) N2 (flatR (rs.eraseIdx i)) ∧ (rs.eraseIdx i).length = N2 ∧ Fr [] W X2) := ⟨o2, hN2e, hF2⟩
  have q0 : X2.cell? ⟨c, 0, none⟩ = some (.slice (some ⟨g, 0, none⟩) N rc) := LC.out _ hF2
  have z0 : X2.frozen? ⟨c, 0, none⟩ = false := frz ((hF2.block _ (Array.getElem?_eq_some_iff.1 HP.out.1.blk).1 (by simp)).trans HP.out.1.blk)
  clear o2 g2 l2 hN2 hN2e hF hF2 hdl hnone hcs
  refine hK.out _ _ hS (fun _ => ?_)
  clear hK K
  try simp only [List.getElem_toArray, List.getElem_cons_succ, List.getElem_cons_zero, Act.put, List.setIfInBounds_toArray, List.set_cons_zero, List.set_cons_succ]
  refine tk 16 (some 32) (.pointer (some ⟨c, 0, none⟩)) rfl rfl (Or.inl ⟨rfl, fun wq hSq => by first | rfl | go_simp⟩) (by decide +kernel) hS ?_
  simp only [Act.put, List.setIfInBounds_toArray, List.set_cons_zero, List.set_cons_succ]
  refine tk 17 (some 33) (.pointer (some ⟨c, 0, none⟩)) rfl rfl (Or.inl ⟨rfl, fun wq hSq => by first | rfl | go_simp⟩) (by decide +kernel) hS ?_
  simp only [Act.put, List.setIfInBounds_toArray, List.set_cons_zero, List.set_cons_succ]
  refine wpAnyH_ready (rs := [18]) (by decide +kernel) (by simp) ?_
  refine AllReadyH.cons rfl (fun K hK => ?_) AllReadyH.nil
  go_simp
  clear q0 z0
  refine hK.out _ _ hS (fun _ => ?_)
  clear hK K
  try simp only [List.getElem_toArray, List.getElem_cons_succ, List.getElem_cons_zero, Act.put, List.setIfInBounds_toArray, List.set_cons_zero, List.set_cons_succ]
  refine wpAnyH_done (by decide +kernel) ?_ _
  refine plain_end ?_
  have hbX := (HO2.out.2.2.block _ (Array.getElem?_eq_some_iff.1 HP.out.1.blk).1 (by simp)).trans HP.out.1.blk
  have f3 : Fr [c] X2 (X2.setCell ⟨c, 0, none⟩ (.slice vb N2 vd)) := (Fr.refl _ _).setCell (.inl (by simp)) _
  have hb3 := set_blk (i := 0) (v := .slice vb N2 vd) hbX
  have hA : Away X2 B [c] := away_cells hbX rfl HP.out.1.cB
  have hno : ∀ k, nv.ownBlock = some k → k ∉ [c] := fun k hk hm => by
    have : k = c := by simpa using hm
    subst this
    exact own_ne (own_fr HP.out.1.notes HO2.out.2.2 (by simp)) hbX (by decide) hk
  have hro : ∀ k, (Value.slice vb N2 vd).ownBlock = some k → k ∉ [c] := fun k hk hm => by
    have : k = c := by simpa using hm
    subst this
    exact own_ne HO2.out.1 hbX (by decide) hk
  refine hQ.out _ (.slice vb N2 vd) ⟨hb3, by rw [HO2.out.2.1]; exact own_fr (own_low HO2.out.1 HP.out.2.1) f3 hro, own_fr (own_fr HP.out.1.notes HO2.out.2.2 (by simp)) f3 hno, (HP.out.1.pick.fr HO2.out.2.2 (Away.nil _ _)).fr f3 hA, fun r hr => ((HP.out.1.trs r (List.mem_of_mem_eraseIdx hr)).fr0 HO2.out.2.2).fr f3 hA, HP.out.1.cB⟩ ((Gm.ofFr0 HO2.out.2.2).trans (Gm.ofFr f3 (fun k hm => by
    have : k = c := by simpa using hm
    subst this
    exact .inr ⟨HP.out.1.cB, .inl ⟨_, _, _, hbX, rfl⟩⟩))) _ _ _ _ _ _ _ _ _ _ _ _ _ _ _ _ _ _
end Go.Proofs.Ytnhjplfdfbbihaa
