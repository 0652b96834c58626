/-
  A trace comes in, whole: one with its key goes, room is made; condition: the cache lies as told.
-/
import Derived.Test.YtnhjplfdfbbihaaCbN
namespace Go.Proofs.Ytnhjplfdfbbihaa
open Go.RowKit Go.Shelf Go.Maps Go.ChangeShapes
set_option linter.unusedVariables false
set_option linter.unusedSimpArgs false
def ordLen (w : World) (c : Nat) : Nat := match w.cell? ⟨c, 3, none⟩ with
  | some (.slice _ n _) => n
  | _ => 0
theorem ordLen_of {w : World} {B c n : Nat} {rs : List Rt} {S : Bk} (h : CA w B c n rs S) : ordLen w c = rs.length := by
  obtain ⟨pa, pcap, hb, ov, fb, lb, hp⟩ := h.ex
  obtain ⟨oa, oc, rfl, _⟩ := own_slice hp.ord
  have k3 : w.cell? ⟨c, 3, none⟩ = some (.slice oa (rs.map mb).length oc) := at_cells hp.blk 3 rfl
  unfold ordLen
  rw [k3]
  simp
/-- Room is being made for a trace. -/
structure PutI (W wr : World) (B c n tb : Nat) (t : Tr) (S1 : Bk) (rs : List Rt) (S : Bk) : Prop where
  ca : CA wr B c n rs S
  ok : Ok S n
  room : roomB S = roomB S1
  lim : S.lim ≠ 0
  pw : ∀ x ∈ S.pk, W64 x
  keys : ∀ r ∈ S.rows, r.2.k ≠ t.abs.k
  box : wr.heap[tb]? = some (.cells t.arr 35 (0, 0))
  tr : TrOk wr B t
  gm : Gm B pP true W wr
  big : B ≤ wr.heap.size
theorem room_room {S : Bk} {n : Nat} (h : Ok S n) (h0 : S.lim ≠ 0) : roomB (roomB S) = roomB S := by
  have h1 := (h.room h0).2
  rw [← room_lim S] at h1
  generalize roomB S = R at h1 ⊢
  unfold roomB
  rw [if_pos h1]
theorem room_pk (S : Bk) : ∀ x ∈ (roomB S).pk, x ∈ S.pk := by
  intro x hx
  unfold roomB at hx
  split at hx
  · exact hx
  · exact List.mem_of_mem_tail hx
set_option maxRecDepth 100000 in
set_option maxHeartbeats 8000000 in
theorem put_loop {W0 W : World} {B c n tb : Nat} {rs : List Rt} {S1 S : Bk} {t : Tr} (hn : n ≤ 100000000000000) (hI : PutI W0 W B c n tb t S1 rs S) {Q : Exit → Act → World → Prop} {u1 u2 u4 u5 u6 u7 u8 u9 u10 u11 u12 u13 u14 u15 u16 u17 u18 u19 u20 u21 u22 u23 u24 u25 u26 u27 u28 u29 u30 u31 u32 u33 u34 u35 u36 u37 u38 u39 u40 u41 u42 u43 u44 u45 u46 u47 u48 u49 u50 u51 u52 u53 u54 u55 u56 u57 u58 u59 u60 u61 u62 u63 u64 u65 u66 u67 u68 u69 u70 u71 u72 u73 u74 u75 u76 u77 u78 u79 u80 u81 u82 u83 u84 u85 u86 u87 u88 u89 u90 u91 u92 u93 u94 u95 u96 u97 u98 u99 u100 : Value}
    (h : ∀ rs2 W2, PutI W0 W2 B c n tb t S1 rs2 (roomB S1) → (roomB S1).rows.length < (roomB S1).lim → ∀ n18 n19 n20 n21 n22 n23 n24 n25 n26 n27 n28 n29 n30 n31 n32 n33 n34 n35 n36 n37 n38 n39 n40 n41 n42, Q .normal { tmps := #[.pointer (some ⟨c, 0, none⟩), u1, u2, .pointer (some ⟨tb, 0, none⟩), u4, u5, u6, u7, u8, u9, u10, u11, u12, u13, u14, u15, u16, u17, n18, n19, n20, n21, n22, n23, n24, n25, n26, n27, n28, n29, n30, n31, n32, n33, n34, n35, n36, n37, n38, n39, n40, n41, n42, u43, u44, u45, u46, u47, u48, u49, u50, u51, u52, u53, u54, u55, u56, u57, u58, u59, u60, u61, u62, u63, u64, u65, u66, u67, u68, u69, u70, u71, u72, u73, u74, u75, u76, u77, u78, u79, u80, u81, u82, u83, u84, u85, u86, u87, u88, u89, u90, u91, u92, u93, u94, u95, u96, u97, u98, u99, u100], defers := [] } W2) :
    (sub Try.f14 [1, 1, 1, 0, 0]).wp Try.prog (Exit.inBlock 0 Q) { tmps := #[.pointer (some ⟨c, 0, none⟩), u1, u2, .pointer (some ⟨tb, 0, none⟩), u4, u5, u6, u7, u8, u9, u10, u11, u12, u13, u14, u15, u16, u17, u18, u19, u20, u21, u22, u23, u24, u25, u26, u27, u28, u29, u30, u31, u32, u33, u34, u35, u36, u37, u38, u39, u40, u41, u42, u43, u44, u45, u46, u47, u48, u49, u50, u51, u52, u53, u54, u55, u56, u57, u58, u59, u60, u61, u62, u63, u64, u65, u66, u67, u68, u69, u70, u71, u72, u73, u74, u75, u76, u77, u78, u79, u80, u81, u82, u83, u84, u85, u86, u87, u88, u89, u90, u91, u92, u93, u94, u95, u96, u97, u98, u99, u100], defers := [] } W := by
  have HI0 : Hid (PutI W0 W B c n tb t S1 rs S) := hI
  have HN : Hid (n ≤ 100000000000000) := hn
  clear hI hn
  dsimp only [sub, nav, kid, Try.f14, Option.getD, if_true, if_false]
  go_wp2
  go_loopw [18] (fun v wr => ∃ rs2 S2, Hid (PutI W0 wr B c n tb t S1 rs2 S2)) (fun _ wr => ordLen wr c)
  case atStart => exact ⟨_, _, HI0⟩
  case round =>
    obtain ⟨rs2, S2, I⟩ := hrel
    clear HI0
    obtain ⟨pa, pcap, hb, ov, fb, lb, hp⟩ := I.out.ca.ex
    have habs := I.out.ca.abs
    obtain ⟨oa, oc, rfl, honil⟩ := own_slice hp.ord
    obtain ⟨N1, hN1⟩ : ∃ N1, (rs2.map mb).length = N1 := ⟨_, rfl⟩
    rw [hN1] at hp honil
    have hN2 : S2.rows.length = N1 := by rw [← hN1, List.length_map, rs_len2 habs]
    have hN3 : rs2.length = N1 := by rw [← hN1, List.length_map]
    obtain ⟨lm, hlm⟩ : ∃ lm, S2.lim = lm := ⟨_, rfl⟩
    have HN1 : Hid ((rs2.map mb).length = N1 ∧ S2.rows.length = N1 ∧ rs2.length = N1 ∧ S2.lim = lm) := ⟨hN1, hN2, hN3, hlm⟩
    have HP : Hid (CP wr B c pa pcap hb (.slice oa N1 oc) fb lb S2.lim S2.pk S2.last S2.top n rs2 (rs2.map mb) (failsF S2.notes) (linksF S2.notes)) := hp
    have LC : Hid (∀ w', Fr [] wr w' → w'.cell? ⟨c, 3, none⟩ = some (.slice oa N1 oc)) := fun w' f => f.cellNew HP.out.blk (by simp) rfl
    have LM : Hid (∀ w', Fr [] wr w' → w'.cell? ⟨c, 0, none⟩ = some (.int .i64 (lm : Int))) := fun w' f => by rw [← hlm]; exact f.cellNew HP.out.blk (by simp) rfl
    have hle : N1 ≤ lm := by have := I.out.ok.len; omega
    have hl1000 : lm ≤ 1000 := by have := I.out.ok.lim; omega
    have hlm0 : lm ≠ 0 := by have := I.out.lim; omega
    clear hp habs hN1 hN2 hN3 hlm
    have hS : Fr [] wr wr.drew := (Fr.refl _ _).drew
    by_cases hlt : N1 < lm
    · have hge : ¬ ((lm : Int) ≤ (N1 : Int)) := by omega
      clear hle hl1000 hlm0
      go_upto_region 4 with fail
      refine reg_in (fun w' => Fr [] wr w') ?_
      generalize wr.drew = Y at *
      refine tk 0 (some 18) (.pointer (some ⟨c, 0, none⟩)) rfl rfl (Or.inl ⟨rfl, fun wq hSq => by first | rfl | go_simp⟩) (by decide +kernel) hS ?_
      simp only [Act.put, List.setIfInBounds_toArray, List.set_cons_zero, List.set_cons_succ]
      refine tk 1 (some 19) (.pointer (some ⟨c, 0, none⟩)) rfl rfl (Or.inl ⟨rfl, fun wq hSq => by first | rfl | go_simp⟩) (by decide +kernel) hS ?_
      simp only [Act.put, List.setIfInBounds_toArray, List.set_cons_zero, List.set_cons_succ]
      refine tk 2 (some 20) (.pointer (some ⟨c, 3, none⟩)) rfl rfl (Or.inl ⟨rfl, fun wq hSq => by first | rfl | go_simp⟩) (by decide +kernel) hS ?_
      simp only [Act.put, List.setIfInBounds_toArray, List.set_cons_zero, List.set_cons_succ]
      refine tk 3 (some 21) (.slice oa N1 oc) rfl rfl (Or.inl ⟨rfl, fun wq hSq => by have q := LC.out wq hSq; go_simp⟩) (by decide +kernel) hS ?_
      simp only [Act.put, List.setIfInBounds_toArray, List.set_cons_zero, List.set_cons_succ]
      refine tk 4 (some 22) (.int .i64 (N1 : Int)) rfl rfl (Or.inl ⟨rfl, fun wq hSq => by go_simp⟩) (by decide +kernel) hS ?_
      simp only [Act.put, List.setIfInBounds_toArray, List.set_cons_zero, List.set_cons_succ]
      refine tk 5 (some 23) (.pointer (some ⟨c, 0, none⟩)) rfl rfl (Or.inl ⟨rfl, fun wq hSq => by first | rfl | go_simp⟩) (by decide +kernel) hS ?_
      simp only [Act.put, List.setIfInBounds_toArray, List.set_cons_zero, List.set_cons_succ]
      refine tk 6 (some 24) (.pointer (some ⟨c, 0, none⟩)) rfl rfl (Or.inl ⟨rfl, fun wq hSq => by first | rfl | go_simp⟩) (by decide +kernel) hS ?_
      simp only [Act.put, List.setIfInBounds_toArray, List.set_cons_zero, List.set_cons_succ]
      refine tk 7 (some 25) (.pointer (some ⟨c, 0, none⟩)) rfl rfl (Or.inl ⟨rfl, fun wq hSq => by first | rfl | go_simp⟩) (by decide +kernel) hS ?_
      simp only [Act.put, List.setIfInBounds_toArray, List.set_cons_zero, List.set_cons_succ]
      refine tk 8 (some 26) (.int .i64 (lm : Int)) rfl rfl (Or.inl ⟨rfl, fun wq hSq => by have q := LM.out wq hSq; go_simp⟩) (by decide +kernel) hS ?_
      simp only [Act.put, List.setIfInBounds_toArray, List.set_cons_zero, List.set_cons_succ]
      refine tk 9 (some 27) (.bool false) rfl rfl (Or.inl ⟨rfl, fun wq hSq => by go_simp⟩) (by decide +kernel) hS ?_
      simp only [Act.put, List.setIfInBounds_toArray, List.set_cons_zero, List.set_cons_succ]
      refine wpAnyH_done (by decide +kernel) ?_ _
      refine plain_end ?_
      have hr : roomB S2 = S2 := by unfold roomB; rw [if_pos (by rw [HN1.out.2.1, HN1.out.2.2.2]; exact hlt)]
      have hr2 : roomB S1 = S2 := by rw [← I.out.room, hr]
      have HF : Hid (PutI W0 Y B c n tb t S1 rs2 (roomB S1) ∧ (roomB S1).rows.length < (roomB S1).lim) := by
        have I1 := I.out
        rw [hr2]
        refine ⟨⟨I1.ca.fr0 hS, I1.ok, by rw [hr, hr2], I1.lim, I1.pw, I1.keys, (hS.block _ (Array.getElem?_eq_some_iff.1 I1.box).1 (by simp)).trans I1.box, I1.tr.fr0 hS, I1.gm.trans (Gm.ofFr0 hS), Nat.le_trans I1.big hS.size⟩, by rw [HN1.out.2.1, HN1.out.2.2.2]; exact hlt⟩
      clear hr hr2 hS I HN1 HP LC LM hlt hge honil
      go_wp2
      exact h _ _ HF.out.1 HF.out.2 _ _ _ _ _ _ _ _ _ _ _ _ _ _ _ _ _ _ _ _ _ _ _ _ _
    · have hge : (lm : Int) ≤ (N1 : Int) := by omega
      have heq : N1 = lm := by omega
      have HLL : Hid (N1 = lm ∧ lm ≤ 1000 ∧ lm ≠ 0) := ⟨heq, hl1000, hlm0⟩
      clear hle hl1000 hlm0 heq hlt
      go_upto_region 4 with fail
      refine reg_in (fun w' => Fr [] wr w') ?_
      generalize wr.drew = Y at *
      refine tk 0 (some 18) (.pointer (some ⟨c, 0, none⟩)) rfl rfl (Or.inl ⟨rfl, fun wq hSq => by first | rfl | go_simp⟩) (by decide +kernel) hS ?_
      simp only [Act.put, List.setIfInBounds_toArray, List.set_cons_zero, List.set_cons_succ]
      refine tk 1 (some 19) (.pointer (some ⟨c, 0, none⟩)) rfl rfl (Or.inl ⟨rfl, fun wq hSq => by first | rfl | go_simp⟩) (by decide +kernel) hS ?_
      simp only [Act.put, List.setIfInBounds_toArray, List.set_cons_zero, List.set_cons_succ]
      refine tk 2 (some 20) (.pointer (some ⟨c, 3, none⟩)) rfl rfl (Or.inl ⟨rfl, fun wq hSq => by first | rfl | go_simp⟩) (by decide +kernel) hS ?_
      simp only [Act.put, List.setIfInBounds_toArray, List.set_cons_zero, List.set_cons_succ]
      refine tk 3 (some 21) (.slice oa N1 oc) rfl rfl (Or.inl ⟨rfl, fun wq hSq => by have q := LC.out wq hSq; go_simp⟩) (by decide +kernel) hS ?_
      simp only [Act.put, List.setIfInBounds_toArray, List.set_cons_zero, List.set_cons_succ]
      refine tk 4 (some 22) (.int .i64 (N1 : Int)) rfl rfl (Or.inl ⟨rfl, fun wq hSq => by go_simp⟩) (by decide +kernel) hS ?_
      simp only [Act.put, List.setIfInBounds_toArray, List.set_cons_zero, List.set_cons_succ]
      refine tk 5 (some 23) (.pointer (some ⟨c, 0, none⟩)) rfl rfl (Or.inl ⟨rfl, fun wq hSq => by first | rfl | go_simp⟩) (by decide +kernel) hS ?_
      simp only [Act.put, List.setIfInBounds_toArray, List.set_cons_zero, List.set_cons_succ]
      refine tk 6 (some 24) (.pointer (some ⟨c, 0, none⟩)) rfl rfl (Or.inl ⟨rfl, fun wq hSq => by first | rfl | go_simp⟩) (by decide +kernel) hS ?_
      simp only [Act.put, List.setIfInBounds_toArray, List.set_cons_zero, List.set_cons_succ]
      refine tk 7 (some 25) (.pointer (some ⟨c, 0, none⟩)) rfl rfl (Or.inl ⟨rfl, fun wq hSq => by first | rfl | go_simp⟩) (by decide +kernel) hS ?_
      simp only [Act.put, List.setIfInBounds_toArray, List.set_cons_zero, List.set_cons_succ]
      refine tk 8 (some 26) (.int .i64 (lm : Int)) rfl rfl (Or.inl ⟨rfl, fun wq hSq => by have q := LM.out wq hSq; go_simp⟩) (by decide +kernel) hS ?_
      simp only [Act.put, List.setIfInBounds_toArray, List.set_cons_zero, List.set_cons_succ]
      refine tk 9 (some 27) (.bool true) rfl rfl (Or.inl ⟨rfl, fun wq hSq => by go_simp⟩) (by decide +kernel) hS ?_
      simp only [Act.put, List.setIfInBounds_toArray, List.set_cons_zero, List.set_cons_succ]
      refine wpAnyH_done (by decide +kernel) ?_ _
      refine plain_end ?_
      have hN0 : 0 < N1 := by have := HLL.out; omega
      obtain ⟨pi, hpi⟩ : ∃ pi, pi = pickP S2.pk N1 := ⟨_, rfl⟩
      have HPI : Hid (pi = pickP S2.pk N1) := hpi
      have hpl : pi < N1 := by rw [hpi]; exact pickP_lt _ hN0
      have HPL : Hid (pi < N1) := hpl
      obtain ⟨r, hr⟩ : ∃ r, rs2[pi]? = some r := ⟨_, List.getElem?_eq_getElem (by rw [HN1.out.2.2.1]; exact hpl)⟩
      have HX : Hid (rs2[pi]? = some r ∧ (rs2.map mb)[pi]? = some (mb r)) := ⟨hr, by rw [List.getElem?_map, hr]; rfl⟩
      have hSV : Fr [] wr Y.drew := hS.drew
      have FV : Hid (Fr [] wr Y.drew) := hSV
      have HPV : Hid (CP Y.drew B c pa pcap hb (.slice oa N1 oc) fb lb S2.lim S2.pk S2.last S2.top n rs2 (rs2.map mb) (failsF S2.notes) (linksF S2.notes)) := HP.out.fr0 hSV
      obtain ⟨g, rfl⟩ : ∃ g, oa = some ⟨g, 0, none⟩ := by
        obtain ⟨g, gc, e1, _⟩ := own_cells HPV.out.ord (j := pi * 11) (List.getElem?_eq_getElem (by rw [flatM_len, HN1.out.1]; omega))
        cases e1
        exact ⟨g, rfl⟩
      have hOk : Ok { S2 with pk := S2.pk.tail } n := ⟨I.out.ok.lim, I.out.ok.len, I.out.ok.last, I.out.ok.top, I.out.ok.ids, I.out.ok.idr, I.out.ok.keys, I.out.ok.ok, I.out.ok.apart, I.out.ok.nf, I.out.ok.nn, I.out.ok.nw⟩
      have HO : Hid (rs2.map absR = S2.rows ∧ Ok { S2 with pk := S2.pk.tail } n ∧ B ≤ Y.drew.heap.size) := ⟨I.out.ca.abs, hOk, Nat.le_trans I.out.big hSV.size⟩
      have CPK := pick_cp HPV.out (m := N1) hN0 (by have := HLL.out; omega) I.out.pw
      rw [← hpi] at CPK
      have k3V : Y.drew.cell? ⟨c, 3, none⟩ = some (.slice (some ⟨g, 0, none⟩) N1 oc) := at_cells HPV.out.blk 3 rfl
      have hpiI : (pi : Int) < (N1 : Int) := by omega
      clear hpi hr hSV hOk hN0 hS
      have hS : True := trivial
      go_upto_region 5 with fail
      refine reg_in (fun _ => True) ?_
      generalize Y.drew = V at *
      refine tk 0 (some 28) (.pointer (some ⟨c, 0, none⟩)) rfl rfl (Or.inl ⟨rfl, fun wq hSq => by first | rfl | go_simp⟩) (by decide +kernel) hS ?_
      simp only [Act.put, List.setIfInBounds_toArray, List.set_cons_zero, List.set_cons_succ]
      refine tk 1 (some 29) (.pointer (some ⟨c, 0, none⟩)) rfl rfl (Or.inl ⟨rfl, fun wq hSq => by first | rfl | go_simp⟩) (by decide +kernel) hS ?_
      simp only [Act.put, List.setIfInBounds_toArray, List.set_cons_zero, List.set_cons_succ]
      refine tk 2 (some 30) (.pointer (some ⟨c, 0, none⟩)) rfl rfl (Or.inl ⟨rfl, fun wq hSq => by first | rfl | go_simp⟩) (by decide +kernel) hS ?_
      simp only [Act.put, List.setIfInBounds_toArray, List.set_cons_zero, List.set_cons_succ]
      refine tk 3 (some 31) (.pointer (some ⟨c, 3, none⟩)) rfl rfl (Or.inl ⟨rfl, fun wq hSq => by first | rfl | go_simp⟩) (by decide +kernel) hS ?_
      simp only [Act.put, List.setIfInBounds_toArray, List.set_cons_zero, List.set_cons_succ]
      refine tk 5 (some 33) (.pointer (some ⟨c, 0, none⟩)) rfl rfl (Or.inl ⟨rfl, fun wq hSq => by first | rfl | go_simp⟩) (by decide +kernel) hS ?_
      simp only [Act.put, List.setIfInBounds_toArray, List.set_cons_zero, List.set_cons_succ]
      refine tk 6 (some 34) (.pointer (some ⟨c, 0, none⟩)) rfl rfl (Or.inl ⟨rfl, fun wq hSq => by first | rfl | go_simp⟩) (by decide +kernel) hS ?_
      simp only [Act.put, List.setIfInBounds_toArray, List.set_cons_zero, List.set_cons_succ]
      refine tk 7 (some 35) (.pointer (some ⟨c, 0, none⟩)) rfl rfl (Or.inl ⟨rfl, fun wq hSq => by first | rfl | go_simp⟩) (by decide +kernel) hS ?_
      simp only [Act.put, List.setIfInBounds_toArray, List.set_cons_zero, List.set_cons_succ]
      refine tk 8 (some 36) (.pointer (some ⟨c, 3, none⟩)) rfl rfl (Or.inl ⟨rfl, fun wq hSq => by first | rfl | go_simp⟩) (by decide +kernel) hS ?_
      simp only [Act.put, List.setIfInBounds_toArray, List.set_cons_zero, List.set_cons_succ]
      refine wpAnyH_ready (rs := [4, 9]) (by decide +kernel) (by simp) ?_
      refine AllReadyH.cons rfl (fun K hK => ?_) ?_
      · skip
        have q := k3V
        go_simp
        clear q
        refine hK.out _ _ hS (fun _ => ?_)
        clear hK K
        try simp only [List.getElem_toArray, List.getElem_cons_succ, List.getElem_cons_zero, Act.put, List.setIfInBounds_toArray, List.set_cons_zero, List.set_cons_succ]
        refine wpAnyH_ready (rs := [9]) (by decide +kernel) (by simp) ?_
        refine AllReadyH.cons rfl (fun K hK => ?_) AllReadyH.nil
        have q := k3V
        go_simp
        clear q
        refine hK.out _ _ hS (fun _ => ?_)
        clear hK K
        try simp only [List.getElem_toArray, List.getElem_cons_succ, List.getElem_cons_zero, Act.put, List.setIfInBounds_toArray, List.set_cons_zero, List.set_cons_succ]
        refine tk 10 (some 38) (.int .i64 (N1 : Int)) rfl rfl (Or.inl ⟨rfl, fun wq hSq => by go_simp⟩) (by decide +kernel) hS ?_
        simp only [Act.put, List.setIfInBounds_toArray, List.set_cons_zero, List.set_cons_succ]
        refine wpAnyH_ready (rs := [11]) (by decide +kernel) (by simp) ?_
        refine AllReadyH.cons rfl (fun K hK => ?_) AllReadyH.nil
        go_simp
        refine CPK.mono ?_
        rintro e Z ⟨rfl, ⟨pa', pcap', hpZ⟩, fZ⟩
        have hpZ : Hid (CP Z B c pa' pcap' hb (.slice (some ⟨g, 0, none⟩) N1 oc) fb lb S2.lim S2.pk.tail S2.last S2.top n rs2 (rs2.map mb) (failsF S2.notes) (linksF S2.notes)) := hpZ
        have k3Z : Z.cell? ⟨c, 3, none⟩ = some (.slice (some ⟨g, 0, none⟩) N1 oc) := at_cells hpZ.out.blk 3 rfl
        have RZ : Hid (Z.rangeAt g (pi * 11) (mcp (mb r))) := rowM_at (L := rs2.map mb) (c := oc) (B := B) (by have := hpZ.out.ord; rw [HN1.out.1] at this ⊢; exact this) HX.out.2
        have FZ : Hid (Fr [c] V Z) := fZ
        clear fZ
        refine hK.out _ _ hS (fun _ => ?_)
        clear hK K
        try simp only [List.getElem_toArray, List.getElem_cons_succ, List.getElem_cons_zero, Act.put, List.setIfInBounds_toArray, List.set_cons_zero, List.set_cons_succ]
        refine tk 12 (some 40) (.pointer (some ⟨g, pi * 11, none⟩)) rfl rfl (Or.inl ⟨rfl, fun wq hSq => by go_simp⟩) (by decide +kernel) hS ?_
        simp only [Act.put, List.setIfInBounds_toArray, List.set_cons_zero, List.set_cons_succ]
        refine wpAnyH_ready (rs := [13]) (by decide +kernel) (by simp) ?_
        refine AllReadyH.cons rfl (fun K hK => ?_) AllReadyH.nil
        refine wp_load_mid 83 (.tmp 40) rfl g (pi * 11) rfl (mcp (mb r)) _ RZ.out Try.underlying83 rfl (by rw [info83, mcp_len]) ?_
        refine hK.out _ _ hS (fun _ => ?_)
        clear hK K
        try simp only [List.getElem_toArray, List.getElem_cons_succ, List.getElem_cons_zero, Act.put, List.setIfInBounds_toArray, List.set_cons_zero, List.set_cons_succ]
        refine wpAnyH_ready (rs := [14]) (by decide +kernel) (by simp) ?_
        refine AllReadyH.cons rfl (fun K hK => ?_) AllReadyH.nil
        have CLG := letGo_any (S := { S2 with pk := S2.pk.tail }) (i := pi) (r := r) ⟨⟨_, _, _, _, _, _, hpZ.out⟩, HO.out.1⟩ HO.out.2.1 HN.out (Nat.le_trans HO.out.2.2 FZ.out.size) HX.out.1
        go_simp
        refine CLG.mono ?_
        rintro e Q5 ⟨rfl, hcaQ, hgmQ⟩
        have HQ : Hid (CA Q5 B c n (rs2.eraseIdx pi) (goneB { S2 with pk := S2.pk.tail } pi) ∧ Gm B pP true Z Q5) := ⟨hcaQ, hgmQ⟩
        clear CLG hcaQ hgmQ
        refine hK.out _ _ hS (fun _ => ?_)
        clear hK K
        try simp only [List.getElem_toArray, List.getElem_cons_succ, List.getElem_cons_zero, Act.put, List.setIfInBounds_toArray, List.set_cons_zero, List.set_cons_succ]
        refine wpAnyH_done (by decide +kernel) ?_ _
        refine plain_end ?_
        have hrm : roomB S2 = { goneB S2 pi with pk := S2.pk.tail } := by unfold roomB; rw [if_neg (by rw [HN1.out.2.1, HN1.out.2.2.2]; have := HLL.out.1; omega), HN1.out.2.1, ← HPI.out]
        have hI1 := I.out
        have gall : Gm B pP true W0 Q5 := ((hI1.gm.trans (Gm.ofFr0 FV.out)).trans ((HPV.out).gmBlk FZ.out)).trans HQ.out.2
        have gwr : Gm B pP true wr Q5 := ((Gm.ofFr0 FV.out).trans ((HPV.out).gmBlk FZ.out)).trans HQ.out.2
        have HF : Hid (PutI W0 Q5 B c n tb t S1 (rs2.eraseIdx pi) (roomB S2) ∧ ordLen Q5 c + 1 = N1 ∧ ordLen wr c = N1) := by
          refine ⟨⟨by rw [hrm]; exact HQ.out.1, (hI1.ok.room hI1.lim).1, by rw [room_room hI1.ok hI1.lim, hI1.room], by rw [room_lim]; exact hI1.lim, fun x hx => hI1.pw x (room_pk S2 x hx), fun r hr => hI1.keys r ((room_sub S2).mem hr), (gwr.block _ (Array.getElem?_eq_some_iff.1 hI1.box).1 (.inr (.inl ⟨_, _, _, hI1.box, rfl⟩))).trans hI1.box, hI1.tr.gm gwr pP_ro, gall, Nat.le_trans hI1.big gwr.size⟩, ?_, by rw [ordLen_of hI1.ca]; exact HN1.out.2.2.1⟩
          rw [ordLen_of HQ.out.1, List.length_eraseIdx_of_lt (by rw [HN1.out.2.2.1]; exact HPL.out), HN1.out.2.2.1]
          have := HPL.out
          omega
        clear hrm hI1 gall gwr hS HQ FZ hpZ k3Z RZ I HN1 HP LC LM HLL HPI HPV FV HX HO hge honil HPL
        go_roundw
        case rel => exact ⟨_, _, _, _, _, _, _, _, _, _, _, _, _, _, _, _, _, _, _, _, _, _, _, _, _, ⟨_, _, HF.out.1⟩, rfl⟩
        case measure => have := HF.out.2; omega
      refine AllReadyH.cons rfl (fun K hK => ?_) AllReadyH.nil
      have q := k3V
      go_simp
      clear q
      refine hK.out _ _ hS (fun _ => ?_)
      clear hK K
      try simp only [List.getElem_toArray, List.getElem_cons_succ, List.getElem_cons_zero, Act.put, List.setIfInBounds_toArray, List.set_cons_zero, List.set_cons_succ]
      refine tk 10 (some 38) (.int .i64 (N1 : Int)) rfl rfl (Or.inl ⟨rfl, fun wq hSq => by go_simp⟩) (by decide +kernel) hS ?_
      simp only [Act.put, List.setIfInBounds_toArray, List.set_cons_zero, List.set_cons_succ]
      refine wpAnyH_ready (rs := [4, 11]) (by decide +kernel) (by simp) ?_
      refine AllReadyH.cons rfl (fun K hK => ?_) ?_
      · skip
        have q := k3V
        go_simp
        clear q
        refine hK.out _ _ hS (fun _ => ?_)
        clear hK K
        try simp only [List.getElem_toArray, List.getElem_cons_succ, List.getElem_cons_zero, Act.put, List.setIfInBounds_toArray, List.set_cons_zero, List.set_cons_succ]
        refine wpAnyH_ready (rs := [11]) (by decide +kernel) (by simp) ?_
        refine AllReadyH.cons rfl (fun K hK => ?_) AllReadyH.nil
        go_simp
        refine CPK.mono ?_
        rintro e Z ⟨rfl, ⟨pa', pcap', hpZ⟩, fZ⟩
        have hpZ : Hid (CP Z B c pa' pcap' hb (.slice (some ⟨g, 0, none⟩) N1 oc) fb lb S2.lim S2.pk.tail S2.last S2.top n rs2 (rs2.map mb) (failsF S2.notes) (linksF S2.notes)) := hpZ
        have k3Z : Z.cell? ⟨c, 3, none⟩ = some (.slice (some ⟨g, 0, none⟩) N1 oc) := at_cells hpZ.out.blk 3 rfl
        have RZ : Hid (Z.rangeAt g (pi * 11) (mcp (mb r))) := rowM_at (L := rs2.map mb) (c := oc) (B := B) (by have := hpZ.out.ord; rw [HN1.out.1] at this ⊢; exact this) HX.out.2
        have FZ : Hid (Fr [c] V Z) := fZ
        clear fZ
        refine hK.out _ _ hS (fun _ => ?_)
        clear hK K
        try simp only [List.getElem_toArray, List.getElem_cons_succ, List.getElem_cons_zero, Act.put, List.setIfInBounds_toArray, List.set_cons_zero, List.set_cons_succ]
        refine tk 12 (some 40) (.pointer (some ⟨g, pi * 11, none⟩)) rfl rfl (Or.inl ⟨rfl, fun wq hSq => by go_simp⟩) (by decide +kernel) hS ?_
        simp only [Act.put, List.setIfInBounds_toArray, List.set_cons_zero, List.set_cons_succ]
        refine wpAnyH_ready (rs := [13]) (by decide +kernel) (by simp) ?_
        refine AllReadyH.cons rfl (fun K hK => ?_) AllReadyH.nil
        refine wp_load_mid 83 (.tmp 40) rfl g (pi * 11) rfl (mcp (mb r)) _ RZ.out Try.underlying83 rfl (by rw [info83, mcp_len]) ?_
        refine hK.out _ _ hS (fun _ => ?_)
        clear hK K
        try simp only [List.getElem_toArray, List.getElem_cons_succ, List.getElem_cons_zero, Act.put, List.setIfInBounds_toArray, List.set_cons_zero, List.set_cons_succ]
        refine wpAnyH_ready (rs := [14]) (by decide +kernel) (by simp) ?_
        refine AllReadyH.cons rfl (fun K hK => ?_) AllReadyH.nil
        have CLG := letGo_any (S := { S2 with pk := S2.pk.tail }) (i := pi) (r := r) ⟨⟨_, _, _, _, _, _, hpZ.out⟩, HO.out.1⟩ HO.out.2.1 HN.out (Nat.le_trans HO.out.2.2 FZ.out.size) HX.out.1
        go_simp
        refine CLG.mono ?_
        rintro e Q5 ⟨rfl, hcaQ, hgmQ⟩
        have HQ : Hid (CA Q5 B c n (rs2.eraseIdx pi) (goneB { S2 with pk := S2.pk.tail } pi) ∧ Gm B pP true Z Q5) := ⟨hcaQ, hgmQ⟩
        clear CLG hcaQ hgmQ
        refine hK.out _ _ hS (fun _ => ?_)
        clear hK K
        try simp only [List.getElem_toArray, List.getElem_cons_succ, List.getElem_cons_zero, Act.put, List.setIfInBounds_toArray, List.set_cons_zero, List.set_cons_succ]
        refine wpAnyH_done (by decide +kernel) ?_ _
        refine plain_end ?_
        have hrm : roomB S2 = { goneB S2 pi with pk := S2.pk.tail } := by unfold roomB; rw [if_neg (by rw [HN1.out.2.1, HN1.out.2.2.2]; have := HLL.out.1; omega), HN1.out.2.1, ← HPI.out]
        have hI1 := I.out
        have gall : Gm B pP true W0 Q5 := ((hI1.gm.trans (Gm.ofFr0 FV.out)).trans ((HPV.out).gmBlk FZ.out)).trans HQ.out.2
        have gwr : Gm B pP true wr Q5 := ((Gm.ofFr0 FV.out).trans ((HPV.out).gmBlk FZ.out)).trans HQ.out.2
        have HF : Hid (PutI W0 Q5 B c n tb t S1 (rs2.eraseIdx pi) (roomB S2) ∧ ordLen Q5 c + 1 = N1 ∧ ordLen wr c = N1) := by
          refine ⟨⟨by rw [hrm]; exact HQ.out.1, (hI1.ok.room hI1.lim).1, by rw [room_room hI1.ok hI1.lim, hI1.room], by rw [room_lim]; exact hI1.lim, fun x hx => hI1.pw x (room_pk S2 x hx), fun r hr => hI1.keys r ((room_sub S2).mem hr), (gwr.block _ (Array.getElem?_eq_some_iff.1 hI1.box).1 (.inr (.inl ⟨_, _, _, hI1.box, rfl⟩))).trans hI1.box, hI1.tr.gm gwr pP_ro, gall, Nat.le_trans hI1.big gwr.size⟩, ?_, by rw [ordLen_of hI1.ca]; exact HN1.out.2.2.1⟩
          rw [ordLen_of HQ.out.1, List.length_eraseIdx_of_lt (by rw [HN1.out.2.2.1]; exact HPL.out), HN1.out.2.2.1]
          have := HPL.out
          omega
        clear hrm hI1 gall gwr hS HQ FZ hpZ k3Z RZ I HN1 HP LC LM HLL HPI HPV FV HX HO hge honil HPL
        go_roundw
        case rel => exact ⟨_, _, _, _, _, _, _, _, _, _, _, _, _, _, _, _, _, _, _, _, _, _, _, _, _, ⟨_, _, HF.out.1⟩, rfl⟩
        case measure => have := HF.out.2; omega
      refine AllReadyH.cons rfl (fun K hK => ?_) AllReadyH.nil
      go_simp
      refine CPK.mono ?_
      rintro e Z ⟨rfl, ⟨pa', pcap', hpZ⟩, fZ⟩
      have hpZ : Hid (CP Z B c pa' pcap' hb (.slice (some ⟨g, 0, none⟩) N1 oc) fb lb S2.lim S2.pk.tail S2.last S2.top n rs2 (rs2.map mb) (failsF S2.notes) (linksF S2.notes)) := hpZ
      have k3Z : Z.cell? ⟨c, 3, none⟩ = some (.slice (some ⟨g, 0, none⟩) N1 oc) := at_cells hpZ.out.blk 3 rfl
      have RZ : Hid (Z.rangeAt g (pi * 11) (mcp (mb r))) := rowM_at (L := rs2.map mb) (c := oc) (B := B) (by have := hpZ.out.ord; rw [HN1.out.1] at this ⊢; exact this) HX.out.2
      have FZ : Hid (Fr [c] V Z) := fZ
      clear fZ
      refine hK.out _ _ hS (fun _ => ?_)
      clear hK K
      try simp only [List.getElem_toArray, List.getElem_cons_succ, List.getElem_cons_zero, Act.put, List.setIfInBounds_toArray, List.set_cons_zero, List.set_cons_succ]
      refine wpAnyH_ready (rs := [4]) (by decide +kernel) (by simp) ?_
      refine AllReadyH.cons rfl (fun K hK => ?_) AllReadyH.nil
      have q := k3Z
      go_simp
      clear q
      refine hK.out _ _ hS (fun _ => ?_)
      clear hK K
      try simp only [List.getElem_toArray, List.getElem_cons_succ, List.getElem_cons_zero, Act.put, List.setIfInBounds_toArray, List.set_cons_zero, List.set_cons_succ]
      refine tk 12 (some 40) (.pointer (some ⟨g, pi * 11, none⟩)) rfl rfl (Or.inl ⟨rfl, fun wq hSq => by go_simp⟩) (by decide +kernel) hS ?_
      simp only [Act.put, List.setIfInBounds_toArray, List.set_cons_zero, List.set_cons_succ]
      refine wpAnyH_ready (rs := [13]) (by decide +kernel) (by simp) ?_
      refine AllReadyH.cons rfl (fun K hK => ?_) AllReadyH.nil
      refine wp_load_mid 83 (.tmp 40) rfl g (pi * 11) rfl (mcp (mb r)) _ RZ.out Try.underlying83 rfl (by rw [info83, mcp_len]) ?_
      refine hK.out _ _ hS (fun _ => ?_)
      clear hK K
      try simp only [List.getElem_toArray, List.getElem_cons_succ, List.getElem_cons_zero, Act.put, List.setIfInBounds_toArray, List.set_cons_zero, List.set_cons_succ]
      refine wpAnyH_ready (rs := [14]) (by decide +kernel) (by simp) ?_
      refine AllReadyH.cons rfl (fun K hK => ?_) AllReadyH.nil
      have CLG := letGo_any (S := { S2 with pk := S2.pk.tail }) (i := pi) (r := r) ⟨⟨_, _, _, _, _, _, hpZ.out⟩, HO.out.1⟩ HO.out.2.1 HN.out (Nat.le_trans HO.out.2.2 FZ.out.size) HX.out.1
      go_simp
      refine CLG.mono ?_
      rintro e Q5 ⟨rfl, hcaQ, hgmQ⟩
      have HQ : Hid (CA Q5 B c n (rs2.eraseIdx pi) (goneB { S2 with pk := S2.pk.tail } pi) ∧ Gm B pP true Z Q5) := ⟨hcaQ, hgmQ⟩
      clear CLG hcaQ hgmQ
      refine hK.out _ _ hS (fun _ => ?_)
      clear hK K
      try simp only [List.getElem_toArray, List.getElem_cons_succ, List.getElem_cons_zero, Act.put, List.setIfInBounds_toArray, List.set_cons_zero, List.set_cons_succ]
      refine wpAnyH_done (by decide +kernel) ?_ _
      refine plain_end ?_
      have hrm : roomB S2 = { goneB S2 pi with pk := S2.pk.tail } := by unfold roomB; rw [if_neg (by rw [HN1.out.2.1, HN1.out.2.2.2]; have := HLL.out.1; omega), HN1.out.2.1, ← HPI.out]
      have hI1 := I.out
      have gall : Gm B pP true W0 Q5 := ((hI1.gm.trans (Gm.ofFr0 FV.out)).trans ((HPV.out).gmBlk FZ.out)).trans HQ.out.2
      have gwr : Gm B pP true wr Q5 := ((Gm.ofFr0 FV.out).trans ((HPV.out).gmBlk FZ.out)).trans HQ.out.2
      have HF : Hid (PutI W0 Q5 B c n tb t S1 (rs2.eraseIdx pi) (roomB S2) ∧ ordLen Q5 c + 1 = N1 ∧ ordLen wr c = N1) := by
        refine ⟨⟨by rw [hrm]; exact HQ.out.1, (hI1.ok.room hI1.lim).1, by rw [room_room hI1.ok hI1.lim, hI1.room], by rw [room_lim]; exact hI1.lim, fun x hx => hI1.pw x (room_pk S2 x hx), fun r hr => hI1.keys r ((room_sub S2).mem hr), (gwr.block _ (Array.getElem?_eq_some_iff.1 hI1.box).1 (.inr (.inl ⟨_, _, _, hI1.box, rfl⟩))).trans hI1.box, hI1.tr.gm gwr pP_ro, gall, Nat.le_trans hI1.big gwr.size⟩, ?_, by rw [ordLen_of hI1.ca]; exact HN1.out.2.2.1⟩
        rw [ordLen_of HQ.out.1, List.length_eraseIdx_of_lt (by rw [HN1.out.2.2.1]; exact HPL.out), HN1.out.2.2.1]
        have := HPL.out
        omega
      clear hrm hI1 gall gwr hS HQ FZ hpZ k3Z RZ I HN1 HP LC LM HLL HPI HPV FV HX HO hge honil HPL
      go_roundw
      case rel => exact ⟨_, _, _, _, _, _, _, _, _, _, _, _, _, _, _, _, _, _, _, _, _, _, _, _, _, ⟨_, _, HF.out.1⟩, rfl⟩
      case measure => have := HF.out.2; omega
end Go.Proofs.Ytnhjplfdfbbihaa
