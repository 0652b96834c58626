/-
  The document puts a trace, whole; condition: the cache and the trace lie as told.
-/
import Derived.Test.YtnhjplfdfbbihaaCcK
namespace Go.Proofs.Ytnhjplfdfbbihaa
open Go.RowKit Go.Shelf Go.Maps Go.ChangeShapes
set_option linter.unusedVariables false
set_option linter.unusedSimpArgs false
/-- Room is being made for a trace. -/
structure RutI (W wr : World) (B c n tb : Nat) (t : Tr) (S1 : Bk) (rs : List Rt) (S : Bk) : Prop where
  ra : RA wr B c rs S
  ok : Ok S n
  room : roomB S = roomB S1
  lim : S.lim ≠ 0
  box : wr.heap[tb]? = some (.cells t.arr 35 (0, 0))
  tr : TrOk wr B t
  gm : Gm B pR false W wr
  big : B ≤ wr.heap.size
theorem ok_tail {S : Bk} {n : Nat} (h : Ok S n) : Ok { S with pk := S.pk.tail } n := ⟨h.lim, h.len, h.last, h.top, h.ids, h.idr, h.keys, h.ok, h.apart, h.nf, h.nn, h.nw⟩
theorem pick_int (L : List Int) (N : Nat) (hN : 0 < N) : ((pickP L N : Nat) : Int) = if (L.headD 0).tmod N < 0 then (L.headD 0).tmod N + N else (L.headD 0).tmod N := by
  unfold pickP
  cases L with
  | nil => simp
  | cons p q =>
    simp only [List.headD_cons]
    have h1 := Int.tmod_lt_of_pos p (show (0 : Int) < N by omega)
    have h2 := Int.lt_tmod_of_pos p (show (0 : Int) < N by omega)
    split <;> omega
set_option maxRecDepth 100000 in
set_option maxHeartbeats 8000000 in
theorem rut_loop {W0 W : World} {B c n tb : Nat} {rs : List Rt} {S1 S : Bk} {t : Tr} (hn : n ≤ 1048576) (hI : RutI W0 W B c n tb t S1 rs S) {Q : Exit → Act → World → Prop} {u1 u2 u4 u5 u6 u7 u8 u9 u10 u11 u12 u13 u14 u15 u16 u17 u18 u19 u20 u21 u22 u23 u24 u25 u26 u27 u28 u29 u30 u31 u32 u33 u34 u35 u36 u37 u38 u39 u40 u41 u42 u43 u44 u45 u46 u47 u48 u49 u50 u51 u52 u53 u54 u55 u56 u57 u58 u59 u60 u61 u62 u63 u64 u65 u66 u67 u68 u69 u70 u71 u72 u73 u74 u75 u76 u77 u78 u79 u80 u81 u82 u83 u84 u85 u86 u87 u88 u89 u90 u91 u92 u93 u94 u95 u96 u97 u98 u99 u100 u101 u102 u103 u104 u105 u106 u107 u108 u109 u110 u111 u112 u113 u114 u115 : Value}
    (hQ : Hid (∀ rs2 W2, RutI W0 W2 B c n tb t S1 rs2 (roomB S1) → ∀ n6 n21 n22 n23 n24 n25 n26 n27 n28 n29 n30 n31 n32 n33 n34 n35 n36 n37 n38 n39 n40 n41 n42 n43 n44 n45 n46 n47 n48 n49 n50 n51 n52 n53 n54 n55 n56 n57 n58 n59 n60 n61 n62 n63 n64 n65 n66 n67 n68 n69 n70 n71 n72 n73 n74 n75 n76, Q .normal { tmps := #[.pointer (some ⟨c, 0, none⟩), u1, u2, .pointer (some ⟨tb, 0, none⟩), u4, u5, n6, u7, u8, u9, u10, u11, u12, u13, u14, u15, u16, u17, u18, u19, u20, n21, n22, n23, n24, n25, n26, n27, n28, n29, n30, n31, n32, n33, n34, n35, n36, n37, n38, n39, n40, n41, n42, n43, n44, n45, n46, n47, n48, n49, n50, n51, n52, n53, n54, n55, n56, n57, n58, n59, n60, n61, n62, n63, n64, n65, n66, n67, n68, n69, n70, n71, n72, n73, n74, n75, n76, u77, u78, u79, u80, u81, u82, u83, u84, u85, u86, u87, u88, u89, u90, u91, u92, u93, u94, u95, u96, u97, u98, u99, u100, u101, u102, u103, u104, u105, u106, u107, u108, u109, u110, u111, u112, u113, u114, u115], defers := [] } W2)) :
    (sub Try.f23 [1, 1, 1, 0, 0]).wp Try.prog (Exit.inBlock 0 Q) { tmps := #[.pointer (some ⟨c, 0, none⟩), u1, u2, .pointer (some ⟨tb, 0, none⟩), u4, u5, u6, u7, u8, u9, u10, u11, u12, u13, u14, u15, u16, u17, u18, u19, u20, u21, u22, u23, u24, u25, u26, u27, u28, u29, u30, u31, u32, u33, u34, u35, u36, u37, u38, u39, u40, u41, u42, u43, u44, u45, u46, u47, u48, u49, u50, u51, u52, u53, u54, u55, u56, u57, u58, u59, u60, u61, u62, u63, u64, u65, u66, u67, u68, u69, u70, u71, u72, u73, u74, u75, u76, u77, u78, u79, u80, u81, u82, u83, u84, u85, u86, u87, u88, u89, u90, u91, u92, u93, u94, u95, u96, u97, u98, u99, u100, u101, u102, u103, u104, u105, u106, u107, u108, u109, u110, u111, u112, u113, u114, u115], defers := [] } W := by
  have HI0 : Hid (RutI W0 W B c n tb t S1 rs S) := hI
  have HN : Hid (n ≤ 1048576) := hn
  clear hI hn
  dsimp only [sub, nav, kid, Try.f23, Option.getD, if_true, if_false]
  go_wp2
  go_loopw [6] (fun v wr => ∃ rs2 S2, Hid (RutI W0 wr B c n tb t S1 rs2 S2)) (fun _ wr => rowLen wr c)
  case atStart => exact ⟨_, _, HI0⟩
  case round =>
    obtain ⟨rs2, S2, I⟩ := hrel
    clear HI0
    obtain ⟨rv, nv, pa, pcap, pf, used, hp, hpk, hus⟩ := I.out.ra.ex
    have habs := I.out.ra.abs
    obtain ⟨ra, rc, rfl, _⟩ := own_slice hp.rows
    obtain ⟨N1, hN1⟩ : ∃ N1, rs2.length = N1 := ⟨_, rfl⟩
    rw [hN1] at hp
    have hN2 : S2.rows.length = N1 := by rw [← hN1, rs_len2 habs]
    obtain ⟨lm, hlm⟩ : ∃ lm, S2.lim = lm := ⟨_, rfl⟩
    have HN1 : Hid (rs2.length = N1 ∧ S2.rows.length = N1 ∧ S2.lim = lm) := ⟨hN1, hN2, hlm⟩
    have HP : Hid (RP wr B c (.slice ra N1 rc) nv S2.lim pa pcap pf used S2.last S2.top rs2 S2.notes ∧ pf.drop used = S2.pk ∧ used ≤ pf.length) := ⟨hp, hpk, hus⟩
    have LC : Hid (∀ w', Fr [] wr w' → w'.cell? ⟨c, 0, none⟩ = some (.slice ra N1 rc)) := fun w' f => f.cellNew HP.out.1.blk (by simp) rfl
    have LM : Hid (∀ w', Fr [] wr w' → w'.cell? ⟨c, 2, none⟩ = some (.int .i64 (lm : Int))) := fun w' f => by rw [← hlm]; exact f.cellNew HP.out.1.blk (by simp) rfl
    have hle : N1 ≤ lm := by have := I.out.ok.len; omega
    have hl1000 : lm ≤ 1000 := by have := I.out.ok.lim; omega
    have hlm0 : lm ≠ 0 := by have := I.out.lim; omega
    clear hp hpk hus habs hN1 hN2 hlm
    have hS : Fr [] wr wr.drew := (Fr.refl _ _).drew
    by_cases hlt : N1 < lm
    · have hge : ¬ ((lm : Int) ≤ (N1 : Int)) := by omega
      clear hle hl1000 hlm0
      go_upto_region 6 with fail
      refine reg_in (fun w' => Fr [] wr w') ?_
      generalize wr.drew = Y at *
      refine tk 0 (some 21) (.pointer (some ⟨c, 0, none⟩)) rfl rfl (Or.inl ⟨rfl, fun wq hSq => by first | rfl | go_simp⟩) (by decide +kernel) hS ?_
      simp only [Act.put, List.setIfInBounds_toArray, List.set_cons_zero, List.set_cons_succ]
      refine tk 1 (some 22) (.pointer (some ⟨c, 0, none⟩)) rfl rfl (Or.inl ⟨rfl, fun wq hSq => by first | rfl | go_simp⟩) (by decide +kernel) hS ?_
      simp only [Act.put, List.setIfInBounds_toArray, List.set_cons_zero, List.set_cons_succ]
      refine tk 2 (some 23) (.pointer (some ⟨c, 0, none⟩)) rfl rfl (Or.inl ⟨rfl, fun wq hSq => by first | rfl | go_simp⟩) (by decide +kernel) hS ?_
      simp only [Act.put, List.setIfInBounds_toArray, List.set_cons_zero, List.set_cons_succ]
      refine tk 3 (some 24) (.slice ra N1 rc) rfl rfl (Or.inl ⟨rfl, fun wq hSq => by have q := LC.out wq hSq; go_simp⟩) (by decide +kernel) hS ?_
      simp only [Act.put, List.setIfInBounds_toArray, List.set_cons_zero, List.set_cons_succ]
      refine tk 4 (some 25) (.int .i64 (N1 : Int)) rfl rfl (Or.inl ⟨rfl, fun wq hSq => by go_simp⟩) (by decide +kernel) hS ?_
      simp only [Act.put, List.setIfInBounds_toArray, List.set_cons_zero, List.set_cons_succ]
      refine tk 5 (some 26) (.pointer (some ⟨c, 0, none⟩)) rfl rfl (Or.inl ⟨rfl, fun wq hSq => by first | rfl | go_simp⟩) (by decide +kernel) hS ?_
      simp only [Act.put, List.setIfInBounds_toArray, List.set_cons_zero, List.set_cons_succ]
      refine tk 6 (some 27) (.pointer (some ⟨c, 0, none⟩)) rfl rfl (Or.inl ⟨rfl, fun wq hSq => by first | rfl | go_simp⟩) (by decide +kernel) hS ?_
      simp only [Act.put, List.setIfInBounds_toArray, List.set_cons_zero, List.set_cons_succ]
      refine tk 7 (some 28) (.pointer (some ⟨c, 2, none⟩)) rfl rfl (Or.inl ⟨rfl, fun wq hSq => by first | rfl | go_simp⟩) (by decide +kernel) hS ?_
      simp only [Act.put, List.setIfInBounds_toArray, List.set_cons_zero, List.set_cons_succ]
      refine tk 8 (some 29) (.int .i64 (lm : Int)) rfl rfl (Or.inl ⟨rfl, fun wq hSq => by have q := LM.out wq hSq; go_simp⟩) (by decide +kernel) hS ?_
      simp only [Act.put, List.setIfInBounds_toArray, List.set_cons_zero, List.set_cons_succ]
      refine tk 9 (some 30) (.bool false) rfl rfl (Or.inl ⟨rfl, fun wq hSq => by go_simp⟩) (by decide +kernel) hS ?_
      simp only [Act.put, List.setIfInBounds_toArray, List.set_cons_zero, List.set_cons_succ]
      refine wpAnyH_done (by decide +kernel) ?_ _
      refine plain_end ?_
      have hr : roomB S2 = S2 := by unfold roomB; rw [if_pos (by rw [HN1.out.2.1, HN1.out.2.2]; exact hlt)]
      have hr2 : roomB S1 = S2 := by rw [← I.out.room, hr]
      have HF : Hid (RutI W0 Y B c n tb t S1 rs2 (roomB S1)) := by
        have I1 := I.out
        show RutI W0 Y B c n tb t S1 rs2 (roomB S1)
        rw [hr2]
        exact ⟨I1.ra.fr0 hS, I1.ok, by rw [hr, hr2], I1.lim, (hS.block _ (Array.getElem?_eq_some_iff.1 I1.box).1 (by simp)).trans I1.box, I1.tr.fr0 hS, I1.gm.trans (Gm.ofFr0 hS), Nat.le_trans I1.big hS.size⟩
      clear hr hr2 hS I HN1 HP LC LM hlt hge
      go_wp2
      exact hQ.out _ _ HF.out _ _ _ _ _ _ _ _ _ _ _ _ _ _ _ _ _ _ _ _ _ _ _ _ _ _ _ _ _ _ _ _ _ _ _ _ _ _ _ _ _ _ _ _ _ _ _ _ _ _ _ _ _ _ _ _ _
    · have hge : (lm : Int) ≤ (N1 : Int) := by omega
      have HLL : Hid (N1 = lm ∧ lm ≤ 1000 ∧ lm ≠ 0) := ⟨by omega, hl1000, hlm0⟩
      clear hle hl1000 hlm0 hlt
      go_upto_region 6 with fail
      refine reg_in (fun w' => Fr [] wr w') ?_
      generalize wr.drew = Y at *
      refine tk 0 (some 21) (.pointer (some ⟨c, 0, none⟩)) rfl rfl (Or.inl ⟨rfl, fun wq hSq => by first | rfl | go_simp⟩) (by decide +kernel) hS ?_
      simp only [Act.put, List.setIfInBounds_toArray, List.set_cons_zero, List.set_cons_succ]
      refine tk 1 (some 22) (.pointer (some ⟨c, 0, none⟩)) rfl rfl (Or.inl ⟨rfl, fun wq hSq => by first | rfl | go_simp⟩) (by decide +kernel) hS ?_
      simp only [Act.put, List.setIfInBounds_toArray, List.set_cons_zero, List.set_cons_succ]
      refine tk 2 (some 23) (.pointer (some ⟨c, 0, none⟩)) rfl rfl (Or.inl ⟨rfl, fun wq hSq => by first | rfl | go_simp⟩) (by decide +kernel) hS ?_
      simp only [Act.put, List.setIfInBounds_toArray, List.set_cons_zero, List.set_cons_succ]
      refine tk 3 (some 24) (.slice ra N1 rc) rfl rfl (Or.inl ⟨rfl, fun wq hSq => by have q := LC.out wq hSq; go_simp⟩) (by decide +kernel) hS ?_
      simp only [Act.put, List.setIfInBounds_toArray, List.set_cons_zero, List.set_cons_succ]
      refine tk 4 (some 25) (.int .i64 (N1 : Int)) rfl rfl (Or.inl ⟨rfl, fun wq hSq => by go_simp⟩) (by decide +kernel) hS ?_
      simp only [Act.put, List.setIfInBounds_toArray, List.set_cons_zero, List.set_cons_succ]
      refine tk 5 (some 26) (.pointer (some ⟨c, 0, none⟩)) rfl rfl (Or.inl ⟨rfl, fun wq hSq => by first | rfl | go_simp⟩) (by decide +kernel) hS ?_
      simp only [Act.put, List.setIfInBounds_toArray, List.set_cons_zero, List.set_cons_succ]
      refine tk 6 (some 27) (.pointer (some ⟨c, 0, none⟩)) rfl rfl (Or.inl ⟨rfl, fun wq hSq => by first | rfl | go_simp⟩) (by decide +kernel) hS ?_
      simp only [Act.put, List.setIfInBounds_toArray, List.set_cons_zero, List.set_cons_succ]
      refine tk 7 (some 28) (.pointer (some ⟨c, 2, none⟩)) rfl rfl (Or.inl ⟨rfl, fun wq hSq => by first | rfl | go_simp⟩) (by decide +kernel) hS ?_
      simp only [Act.put, List.setIfInBounds_toArray, List.set_cons_zero, List.set_cons_succ]
      refine tk 8 (some 29) (.int .i64 (lm : Int)) rfl rfl (Or.inl ⟨rfl, fun wq hSq => by have q := LM.out wq hSq; go_simp⟩) (by decide +kernel) hS ?_
      simp only [Act.put, List.setIfInBounds_toArray, List.set_cons_zero, List.set_cons_succ]
      refine tk 9 (some 30) (.bool true) rfl rfl (Or.inl ⟨rfl, fun wq hSq => by go_simp⟩) (by decide +kernel) hS ?_
      simp only [Act.put, List.setIfInBounds_toArray, List.set_cons_zero, List.set_cons_succ]
      refine wpAnyH_done (by decide +kernel) ?_ _
      refine plain_end ?_
      have FY : Hid (Fr [] wr Y) := hS
      have LP : Hid (∀ w', Fr [] wr w' → w'.cell? ⟨c, 3, none⟩ = some (.slice pa pf.length pcap)) := fun w' f => f.cellNew HP.out.1.blk (by simp) rfl
      obtain ⟨z, hz⟩ : ∃ z : Int, z = used := ⟨_, rfl⟩
      obtain ⟨y, hy⟩ : ∃ y : Int, y = pf.length := ⟨_, rfl⟩
      have LU : Hid (∀ w', Fr [] wr w' → w'.cell? ⟨c, 4, none⟩ = some (.int .i64 z)) := fun w' f => by rw [hz]; exact f.cellNew HP.out.1.blk (by simp) rfl
      have HZ : Hid (z = used ∧ y = pf.length) := ⟨hz, hy⟩
      have hyb : y ≤ 17592186044416 := by have := HP.out.1.pick.fit; omega
      have hz0 : 0 ≤ z := by omega
      have hzy : z ≤ y := by have := HP.out.2.2; omega
      have HYL : Hid ((pf.length : Int) = y) := hy.symm
      clear hz hy hS
      go_upto_region 8 with fail
      have hS : Fr [] wr Y.drew := FY.out.drew
      by_cases hlu : z < y
      · refine reg_in (fun w' => Fr [] wr w') ?_
        generalize Y.drew = T at *
        refine tk 0 (some 31) (.pointer (some ⟨c, 0, none⟩)) rfl rfl (Or.inl ⟨rfl, fun wq hSq => by first | rfl | go_simp⟩) (by decide +kernel) hS ?_
        simp only [Act.put, List.setIfInBounds_toArray, List.set_cons_zero, List.set_cons_succ]
        refine tk 1 (some 32) (.pointer (some ⟨c, 0, none⟩)) rfl rfl (Or.inl ⟨rfl, fun wq hSq => by first | rfl | go_simp⟩) (by decide +kernel) hS ?_
        simp only [Act.put, List.setIfInBounds_toArray, List.set_cons_zero, List.set_cons_succ]
        refine tk 2 (some 33) (.pointer (some ⟨c, 4, none⟩)) rfl rfl (Or.inl ⟨rfl, fun wq hSq => by first | rfl | go_simp⟩) (by decide +kernel) hS ?_
        simp only [Act.put, List.setIfInBounds_toArray, List.set_cons_zero, List.set_cons_succ]
        refine tk 3 (some 34) (.int .i64 z) rfl rfl (Or.inl ⟨rfl, fun wq hSq => by have q := LU.out wq hSq; go_simp⟩) (by decide +kernel) hS ?_
        simp only [Act.put, List.setIfInBounds_toArray, List.set_cons_zero, List.set_cons_succ]
        refine tk 4 (some 35) (.pointer (some ⟨c, 0, none⟩)) rfl rfl (Or.inl ⟨rfl, fun wq hSq => by first | rfl | go_simp⟩) (by decide +kernel) hS ?_
        simp only [Act.put, List.setIfInBounds_toArray, List.set_cons_zero, List.set_cons_succ]
        refine tk 5 (some 36) (.pointer (some ⟨c, 0, none⟩)) rfl rfl (Or.inl ⟨rfl, fun wq hSq => by first | rfl | go_simp⟩) (by decide +kernel) hS ?_
        simp only [Act.put, List.setIfInBounds_toArray, List.set_cons_zero, List.set_cons_succ]
        refine tk 6 (some 37) (.pointer (some ⟨c, 3, none⟩)) rfl rfl (Or.inl ⟨rfl, fun wq hSq => by first | rfl | go_simp⟩) (by decide +kernel) hS ?_
        simp only [Act.put, List.setIfInBounds_toArray, List.set_cons_zero, List.set_cons_succ]
        refine tk 7 (some 38) (.slice pa pf.length pcap) rfl rfl (Or.inl ⟨rfl, fun wq hSq => by have q := LP.out wq hSq; go_simp⟩) (by decide +kernel) hS ?_
        simp only [Act.put, List.setIfInBounds_toArray, List.set_cons_zero, List.set_cons_succ]
        refine tk 8 (some 39) (.int .i64 y) rfl rfl (Or.inl ⟨rfl, fun wq hSq => by have q := HYL.out; go_simp⟩) (by decide +kernel) hS ?_
        simp only [Act.put, List.setIfInBounds_toArray, List.set_cons_zero, List.set_cons_succ]
        refine tk 9 (some 40) (.bool true) rfl rfl (Or.inl ⟨rfl, fun wq hSq => by go_simp⟩) (by decide +kernel) hS ?_
        simp only [Act.put, List.setIfInBounds_toArray, List.set_cons_zero, List.set_cons_succ]
        refine wpAnyH_done (by decide +kernel) ?_ _
        refine plain_end ?_
        have FT : Hid (Fr [] wr T) := hS
        obtain ⟨pv, hpv⟩ : ∃ pv, pf[used]? = some pv := ⟨_, List.getElem?_eq_getElem (by have := HZ.out; omega)⟩
        obtain ⟨b, o, hpa, hcp, _⟩ := HP.out.1.pick.cell used (.int .i64 pv) (by rw [List.getElem?_map, hpv]; rfl)
        have HPA : Hid (pa = some ⟨b, o, none⟩) := hpa
        have LV : Hid (∀ w', Fr [] wr w' → w'.cell? ⟨b, o + used, none⟩ = some (.int .i64 pv)) := fun w' f => f.cell1 hcp (by simp)
        have HPV : Hid (pf[used]? = some pv) := hpv
        have hzu : z.toNat = used := by have := HZ.out; omega
        have HZU : Hid (z.toNat = used) := hzu
        rw [hpa] at LP
        clear hS hpv hpa hcp hzu
        go_upto_region 9 with fail
        have hS : Fr [] wr T.drew := FT.out.drew
        refine reg_in (fun w' => Fr [] wr w') ?_
        generalize T.drew = U at *
        refine tk 0 (some 41) (.pointer (some ⟨c, 0, none⟩)) rfl rfl (Or.inl ⟨rfl, fun wq hSq => by first | rfl | go_simp⟩) (by decide +kernel) hS ?_
        simp only [Act.put, List.setIfInBounds_toArray, List.set_cons_zero, List.set_cons_succ]
        refine tk 1 (some 42) (.pointer (some ⟨c, 0, none⟩)) rfl rfl (Or.inl ⟨rfl, fun wq hSq => by first | rfl | go_simp⟩) (by decide +kernel) hS ?_
        simp only [Act.put, List.setIfInBounds_toArray, List.set_cons_zero, List.set_cons_succ]
        refine tk 2 (some 43) (.pointer (some ⟨c, 3, none⟩)) rfl rfl (Or.inl ⟨rfl, fun wq hSq => by first | rfl | go_simp⟩) (by decide +kernel) hS ?_
        simp only [Act.put, List.setIfInBounds_toArray, List.set_cons_zero, List.set_cons_succ]
        refine tk 3 (some 44) (.slice (some ⟨b, o, none⟩) pf.length pcap) rfl rfl (Or.inl ⟨rfl, fun wq hSq => by have q := LP.out wq hSq; go_simp⟩) (by decide +kernel) hS ?_
        simp only [Act.put, List.setIfInBounds_toArray, List.set_cons_zero, List.set_cons_succ]
        refine tk 4 (some 45) (.pointer (some ⟨c, 0, none⟩)) rfl rfl (Or.inl ⟨rfl, fun wq hSq => by first | rfl | go_simp⟩) (by decide +kernel) hS ?_
        simp only [Act.put, List.setIfInBounds_toArray, List.set_cons_zero, List.set_cons_succ]
        refine tk 5 (some 46) (.pointer (some ⟨c, 0, none⟩)) rfl rfl (Or.inl ⟨rfl, fun wq hSq => by first | rfl | go_simp⟩) (by decide +kernel) hS ?_
        simp only [Act.put, List.setIfInBounds_toArray, List.set_cons_zero, List.set_cons_succ]
        refine tk 6 (some 47) (.pointer (some ⟨c, 4, none⟩)) rfl rfl (Or.inl ⟨rfl, fun wq hSq => by first | rfl | go_simp⟩) (by decide +kernel) hS ?_
        simp only [Act.put, List.setIfInBounds_toArray, List.set_cons_zero, List.set_cons_succ]
        refine tk 7 (some 48) (.int .i64 z) rfl rfl (Or.inl ⟨rfl, fun wq hSq => by have q := LU.out wq hSq; go_simp⟩) (by decide +kernel) hS ?_
        simp only [Act.put, List.setIfInBounds_toArray, List.set_cons_zero, List.set_cons_succ]
        refine tk 8 (some 49) (.pointer (some ⟨b, o + used, none⟩)) rfl rfl (Or.inl ⟨rfl, fun wq hSq => by have q := HYL.out; have q2 := HZU.out; go_simp⟩) (by decide +kernel) hS ?_
        simp only [Act.put, List.setIfInBounds_toArray, List.set_cons_zero, List.set_cons_succ]
        refine tk 9 (some 50) (.int .i64 pv) rfl rfl (Or.inl ⟨rfl, fun wq hSq => by have q := LV.out wq hSq; go_simp⟩) (by decide +kernel) hS ?_
        simp only [Act.put, List.setIfInBounds_toArray, List.set_cons_zero, List.set_cons_succ]
        refine tk 10 (some 6) (.int .i64 pv) rfl rfl (Or.inl ⟨rfl, fun wq hSq => by first | rfl | go_simp⟩) (by decide +kernel) hS ?_
        simp only [Act.put, List.setIfInBounds_toArray, List.set_cons_zero, List.set_cons_succ]
        refine wpAnyH_done (by decide +kernel) ?_ _
        refine plain_end ?_
        have hbU := (hS.block _ (Array.getElem?_eq_some_iff.1 HP.out.1.blk).1 (by simp)).trans HP.out.1.blk
        have k4 : U.cell? ⟨c, 4, none⟩ = some (.int .i64 z) := LU.out _ hS
        have z4 : U.frozen? ⟨c, 4, none⟩ = false := frz hbU
        have f3 : Fr [c] U (U.setCell ⟨c, 4, none⟩ (.int .i64 ((used + 1 : Nat) : Int))) := (Fr.refl _ _).setCell (.inl (by simp)) _
        have hb3 := set_blk (i := 4) (v := .int .i64 ((used + 1 : Nat) : Int)) hbU
        have hP3 := (HP.out.1.fr0 hS).setNum (used' := used + 1) (last' := S2.last) (top' := S2.top) f3 hb3
        have hg3 := (HP.out.1.fr0 hS).gmBlk f3
        have hdr : pf.drop (used + 1) = S2.pk.tail ∧ S2.pk.headD 0 = pv ∧ used + 1 ≤ pf.length := by
          have h1 := HP.out.2.1
          obtain ⟨h2, h3⟩ := List.getElem?_eq_some_iff.1 HPV.out
          rw [List.drop_eq_getElem_cons h2, h3] at h1
          rw [← h1]
          exact ⟨rfl, rfl, h2⟩
        have HRX : Hid (RA (U.setCell ⟨c, 4, none⟩ (.int .i64 ((used + 1 : Nat) : Int))) B c rs2 { S2 with pk := S2.pk.tail } ∧ Gm B pR false wr (U.setCell ⟨c, 4, none⟩ (.int .i64 ((used + 1 : Nat) : Int))) ∧ S2.pk.headD 0 = pv) := ⟨⟨⟨_, _, _, _, _, _, hP3, hdr.1, hdr.2.2⟩, I.out.ra.abs⟩, (Gm.ofFr0 hS).trans hg3, hdr.2.1⟩
        have k0 : (U.setCell ⟨c, 4, none⟩ (.int .i64 ((used + 1 : Nat) : Int))).cell? ⟨c, 0, none⟩ = some (.slice ra N1 rc) := at_cells hb3 0 rfl
        clear hbU f3 hb3 hP3 hg3 hdr hS
        go_upto_region 11 with fail
        rw [show (z + 1) = ((used + 1 : Nat) : Int) by rw [HZ.out.1]; rfl]
        clear k4 z4 hz0 hzy hyb hlu
        generalize U.setCell ⟨c, 4, none⟩ (.int .i64 ((used + 1 : Nat) : Int)) = X at *
        have HRA : Hid (RA X B c rs2 { S2 with pk := S2.pk.tail } ∧ Gm B pR false wr X) := ⟨HRX.out.1, HRX.out.2.1⟩
        have hN0 : 0 < rs2.length := by rw [HN1.out.1]; have := HLL.out; omega
        have hpi := pick_int S2.pk rs2.length hN0
        obtain ⟨pi, hpp⟩ : ∃ pi, pi = pickP S2.pk rs2.length := ⟨_, rfl⟩
        have hpl : pi < rs2.length := by rw [hpp]; exact pickP_lt _ hN0
        have HPL : Hid (pi < rs2.length) := hpl
        have HPI : Hid (pickP S2.pk rs2.length = pi) := hpp.symm
        rw [← hpp, HRX.out.2.2, HN1.out.1] at hpi
        have CG := gone_any HRA.out.1 (ok_tail I.out.ok) HN.out (Nat.le_trans I.out.big HRA.out.2.size) hpl
        have hb1 := Int.tmod_lt_of_pos pv (show (0 : Int) < N1 by rw [HN1.out.1] at hN0; omega)
        have hb2 := Int.lt_tmod_of_pos pv (show (0 : Int) < N1 by rw [HN1.out.1] at hN0; omega)
        have hmI : ¬ ((N1 : Int) = 0) := by rw [HN1.out.1] at hN0; omega
        have hNle : (N1 : Int) ≤ 1000 := by have := HLL.out; omega
        clear hpp hpl hN0 HRX
        generalize hr : pv.tmod N1 = r at hpi hb1 hb2
        by_cases hneg : r < 0
        · rw [if_pos hneg] at hpi
          have hpe := hpi.symm
          clear hpi
          go_upto_region 12 with fail
          try rw [hr]
          clear hr
          go_upto_region 14 with fail
          try rw [hpe]
          clear hpe hb1 hb2 hneg hmI hNle k0 hge
          go_wp2_with (go_at_call 37; refine CG.mono ?_; rintro e Q5 ⟨rfl, hQ5, gQ5⟩)
          have hrm : roomB S2 = { goneB S2 pi with pk := S2.pk.tail } := by unfold roomB; rw [if_neg (by rw [HN1.out.2.1, HN1.out.2.2]; have := HLL.out.1; omega), HN1.out.2.1, ← HN1.out.1, HPI.out]
          have hI1 := I.out
          have gwr : Gm B pR false wr Q5 := HRA.out.2.trans gQ5
          have HF : Hid (RutI W0 Q5 B c n tb t S1 (rs2.eraseIdx pi) (roomB S2) ∧ rowLen Q5 c + 1 = N1 ∧ rowLen wr c = N1) := by
            refine ⟨⟨by rw [hrm]; exact hQ5, (hI1.ok.room hI1.lim).1, by rw [room_room hI1.ok hI1.lim, hI1.room], by rw [room_lim]; exact hI1.lim, (gwr.block _ (Array.getElem?_eq_some_iff.1 hI1.box).1 (.inr (.inl ⟨_, _, _, hI1.box, rfl⟩))).trans hI1.box, hI1.tr.gm gwr pR_ro, hI1.gm.trans gwr, Nat.le_trans hI1.big gwr.size⟩, ?_, by rw [rowLen_of hI1.ra]; exact HN1.out.1⟩
            have hpl := HPL.out
            rw [rowLen_of hQ5, List.length_eraseIdx_of_lt hpl, HN1.out.1]
            rw [HN1.out.1] at hpl
            omega
          clear hrm hI1 gwr hQ5 gQ5 HRA I HN1 HP LC LM HLL HPL HPI
          go_roundw
          case rel => exact ⟨_, _, HF.out.1⟩
          case measure => have := HF.out.2; omega
        · rw [if_neg hneg] at hpi
          have hpe := hpi.symm
          clear hpi
          go_upto_region 12 with fail
          try rw [hr]
          clear hr
          go_upto_region 14 with fail
          try rw [hpe]
          clear hpe hb1 hb2 hneg hmI hNle k0 hge
          go_wp2_with (go_at_call 37; refine CG.mono ?_; rintro e Q5 ⟨rfl, hQ5, gQ5⟩)
          have hrm : roomB S2 = { goneB S2 pi with pk := S2.pk.tail } := by unfold roomB; rw [if_neg (by rw [HN1.out.2.1, HN1.out.2.2]; have := HLL.out.1; omega), HN1.out.2.1, ← HN1.out.1, HPI.out]
          have hI1 := I.out
          have gwr : Gm B pR false wr Q5 := HRA.out.2.trans gQ5
          have HF : Hid (RutI W0 Q5 B c n tb t S1 (rs2.eraseIdx pi) (roomB S2) ∧ rowLen Q5 c + 1 = N1 ∧ rowLen wr c = N1) := by
            refine ⟨⟨by rw [hrm]; exact hQ5, (hI1.ok.room hI1.lim).1, by rw [room_room hI1.ok hI1.lim, hI1.room], by rw [room_lim]; exact hI1.lim, (gwr.block _ (Array.getElem?_eq_some_iff.1 hI1.box).1 (.inr (.inl ⟨_, _, _, hI1.box, rfl⟩))).trans hI1.box, hI1.tr.gm gwr pR_ro, hI1.gm.trans gwr, Nat.le_trans hI1.big gwr.size⟩, ?_, by rw [rowLen_of hI1.ra]; exact HN1.out.1⟩
            have hpl := HPL.out
            rw [rowLen_of hQ5, List.length_eraseIdx_of_lt hpl, HN1.out.1]
            rw [HN1.out.1] at hpl
            omega
          clear hrm hI1 gwr hQ5 gQ5 HRA I HN1 HP LC LM HLL HPL HPI
          go_roundw
          case rel => exact ⟨_, _, HF.out.1⟩
          case measure => have := HF.out.2; omega
      · refine reg_in (fun w' => Fr [] wr w') ?_
        generalize Y.drew = T at *
        refine tk 0 (some 31) (.pointer (some ⟨c, 0, none⟩)) rfl rfl (Or.inl ⟨rfl, fun wq hSq => by first | rfl | go_simp⟩) (by decide +kernel) hS ?_
        simp only [Act.put, List.setIfInBounds_toArray, List.set_cons_zero, List.set_cons_succ]
        refine tk 1 (some 32) (.pointer (some ⟨c, 0, none⟩)) rfl rfl (Or.inl ⟨rfl, fun wq hSq => by first | rfl | go_simp⟩) (by decide +kernel) hS ?_
        simp only [Act.put, List.setIfInBounds_toArray, List.set_cons_zero, List.set_cons_succ]
        refine tk 2 (some 33) (.pointer (some ⟨c, 4, none⟩)) rfl rfl (Or.inl ⟨rfl, fun wq hSq => by first | rfl | go_simp⟩) (by decide +kernel) hS ?_
        simp only [Act.put, List.setIfInBounds_toArray, List.set_cons_zero, List.set_cons_succ]
        refine tk 3 (some 34) (.int .i64 z) rfl rfl (Or.inl ⟨rfl, fun wq hSq => by have q := LU.out wq hSq; go_simp⟩) (by decide +kernel) hS ?_
        simp only [Act.put, List.setIfInBounds_toArray, List.set_cons_zero, List.set_cons_succ]
        refine tk 4 (some 35) (.pointer (some ⟨c, 0, none⟩)) rfl rfl (Or.inl ⟨rfl, fun wq hSq => by first | rfl | go_simp⟩) (by decide +kernel) hS ?_
        simp only [Act.put, List.setIfInBounds_toArray, List.set_cons_zero, List.set_cons_succ]
        refine tk 5 (some 36) (.pointer (some ⟨c, 0, none⟩)) rfl rfl (Or.inl ⟨rfl, fun wq hSq => by first | rfl | go_simp⟩) (by decide +kernel) hS ?_
        simp only [Act.put, List.setIfInBounds_toArray, List.set_cons_zero, List.set_cons_succ]
        refine tk 6 (some 37) (.pointer (some ⟨c, 3, none⟩)) rfl rfl (Or.inl ⟨rfl, fun wq hSq => by first | rfl | go_simp⟩) (by decide +kernel) hS ?_
        simp only [Act.put, List.setIfInBounds_toArray, List.set_cons_zero, List.set_cons_succ]
        refine tk 7 (some 38) (.slice pa pf.length pcap) rfl rfl (Or.inl ⟨rfl, fun wq hSq => by have q := LP.out wq hSq; go_simp⟩) (by decide +kernel) hS ?_
        simp only [Act.put, List.setIfInBounds_toArray, List.set_cons_zero, List.set_cons_succ]
        refine tk 8 (some 39) (.int .i64 y) rfl rfl (Or.inl ⟨rfl, fun wq hSq => by have q := HYL.out; go_simp⟩) (by decide +kernel) hS ?_
        simp only [Act.put, List.setIfInBounds_toArray, List.set_cons_zero, List.set_cons_succ]
        refine tk 9 (some 40) (.bool false) rfl rfl (Or.inl ⟨rfl, fun wq hSq => by go_simp⟩) (by decide +kernel) hS ?_
        simp only [Act.put, List.setIfInBounds_toArray, List.set_cons_zero, List.set_cons_succ]
        refine wpAnyH_done (by decide +kernel) ?_ _
        refine plain_end ?_
        have hnil : S2.pk = [] := by rw [← HP.out.2.1]; exact List.drop_eq_nil_of_le (by have := HZ.out; omega)
        have HRX : Hid (RA T B c rs2 { S2 with pk := S2.pk.tail } ∧ Gm B pR false wr T ∧ S2.pk.headD 0 = 0) := by
          rw [show ({ S2 with pk := S2.pk.tail } : Bk) = S2 by rw [hnil]; show ({ S2 with pk := ([] : List Int) } : Bk) = S2; rw [← hnil]]
          exact ⟨I.out.ra.fr0 hS, Gm.ofFr0 hS, by rw [hnil]; rfl⟩
        have HPI : Hid (pickP S2.pk rs2.length = 0) := by show pickP S2.pk rs2.length = 0; rw [hnil]; rfl
        have k0 : T.cell? ⟨c, 0, none⟩ = some (.slice ra N1 rc) := LC.out T hS
        clear hnil hS
        go_upto_region 11 with fail
        clear hz0 hzy hyb hlu
        have HRA : Hid (RA T B c rs2 { S2 with pk := S2.pk.tail } ∧ Gm B pR false wr T) := ⟨HRX.out.1, HRX.out.2.1⟩
        have hN0 : 0 < rs2.length := by rw [HN1.out.1]; have := HLL.out; omega
        have HPL : Hid (0 < rs2.length) := hN0
        have CG := gone_any HRA.out.1 (ok_tail I.out.ok) HN.out (Nat.le_trans I.out.big HRA.out.2.size) hN0
        change Calls Try.prog 37 #[.pointer (some ⟨c, 0, none⟩), .int .i64 0] T _ at CG
        have hmI : ¬ ((N1 : Int) = 0) := by rw [HN1.out.1] at hN0; omega
        have hNle : (N1 : Int) ≤ 1000 := by have := HLL.out; omega
        clear hN0 HRX
        go_upto_region 14 with fail
        clear hmI hNle k0 hge
        go_wp2_with (go_at_call 37; refine CG.mono ?_; rintro e Q5 ⟨rfl, hQ5, gQ5⟩)
        have hrm : roomB S2 = { goneB S2 0 with pk := S2.pk.tail } := by unfold roomB; rw [if_neg (by rw [HN1.out.2.1, HN1.out.2.2]; have := HLL.out.1; omega), HN1.out.2.1, ← HN1.out.1, HPI.out]
        have hI1 := I.out
        have gwr : Gm B pR false wr Q5 := HRA.out.2.trans gQ5
        have HF : Hid (RutI W0 Q5 B c n tb t S1 (rs2.eraseIdx 0) (roomB S2) ∧ rowLen Q5 c + 1 = N1 ∧ rowLen wr c = N1) := by
          refine ⟨⟨by rw [hrm]; exact hQ5, (hI1.ok.room hI1.lim).1, by rw [room_room hI1.ok hI1.lim, hI1.room], by rw [room_lim]; exact hI1.lim, (gwr.block _ (Array.getElem?_eq_some_iff.1 hI1.box).1 (.inr (.inl ⟨_, _, _, hI1.box, rfl⟩))).trans hI1.box, hI1.tr.gm gwr pR_ro, hI1.gm.trans gwr, Nat.le_trans hI1.big gwr.size⟩, ?_, by rw [rowLen_of hI1.ra]; exact HN1.out.1⟩
          have hpl := HPL.out
          rw [rowLen_of hQ5, List.length_eraseIdx_of_lt hpl, HN1.out.1]
          rw [HN1.out.1] at hpl
          omega
        clear hrm hI1 gwr hQ5 gQ5 HRA I HN1 HP LC LM HLL HPL HPI
        go_roundw
        case rel => exact ⟨_, _, HF.out.1⟩
        case measure => have := HF.out.2; omega
end Go.Proofs.Ytnhjplfdfbbihaa
