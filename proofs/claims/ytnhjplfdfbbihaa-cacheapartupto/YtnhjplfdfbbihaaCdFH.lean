/-
  What Put keeps lies apart from what came; condition: the cache and the trace lie as told.
-/
import Derived.Test.YtnhjplfdfbbihaaCbP
import Derived.Test.YtnhjplfdfbbihaaCdAE
namespace Go.Proofs.Ytnhjplfdfbbihaa
open Go.RowKit Go.Shelf Go.Maps Go.ChangeShapes
set_option linter.unusedVariables false
set_option linter.unusedSimpArgs false
set_option maxRecDepth 100000 in
set_option maxHeartbeats 8000000 in
theorem put_tailF {W : World} {B c n tb : Nat} {rs : List Rt} {S : Bk} {t : Tr} (h : CA W B c n rs S) (ho : Ok S n) (hn : n ≤ 100000000000000) (hBW : B ≤ W.heap.size) (hlt : S.rows.length < S.lim) (hk : ∀ r ∈ S.rows, r.2.k ≠ t.abs.k) (hat : ATOk t.abs) (hx : W.heap[tb]? = some (.cells t.arr 35 (0, 0))) (ht : TrOk W B t) {u1 u2 u4 u5 u6 u7 u8 u9 u10 u11 u12 u13 u14 u15 u16 u17 u18 u19 u20 u21 u22 u23 u24 u25 u26 u27 u28 u29 u30 u31 u32 u33 u34 u35 u36 u37 u38 u39 u40 u41 u42 u43 u44 u45 u46 u47 u48 u49 u50 u51 u52 u53 u54 u55 u56 u57 u58 u59 u60 u61 u62 u63 u64 u65 u66 u67 u68 u69 u70 u71 u72 u73 u74 u75 u76 u77 u78 u79 u80 u81 u82 u83 u84 u85 u86 u87 u88 u89 u90 u91 u92 u93 u94 u95 u96 u97 u98 u99 u100 : Value} :
    (sub Try.f14 [1, 1, 1, 1]).wp Try.prog (bodyPost Try.prog Try.f14 fun e w' => e = .returned (.int .i64 ((S.last + 1 : Nat) : Int)) ∧ (∃ t', CA w' B c (n + 1) (rs ++ [(((S.last + 1 : Nat) : Int), t')]) (pushB S t.abs) ∧ FrL 8 W.heap.size t') ∧ Gm B pP true W w') { tmps := #[.pointer (some ⟨c, 0, none⟩), u1, u2, .pointer (some ⟨tb, 0, none⟩), u4, u5, u6, u7, u8, u9, u10, u11, u12, u13, u14, u15, u16, u17, u18, u19, u20, u21, u22, u23, u24, u25, u26, u27, u28, u29, u30, u31, u32, u33, u34, u35, u36, u37, u38, u39, u40, u41, u42, u43, u44, u45, u46, u47, u48, u49, u50, u51, u52, u53, u54, u55, u56, u57, u58, u59, u60, u61, u62, u63, u64, u65, u66, u67, u68, u69, u70, u71, u72, u73, u74, u75, u76, u77, u78, u79, u80, u81, u82, u83, u84, u85, u86, u87, u88, u89, u90, u91, u92, u93, u94, u95, u96, u97, u98, u99, u100], defers := [] } W := by
  obtain ⟨pa, pcap, hb, ov, fb, lb, hp⟩ := h.ex
  have habs := h.abs
  have hop : Ok (pushB S t.abs) (n + 1) := ho.push hat hlt hk
  have hlast : S.last ≤ n := ho.last
  have hlen := rs_len habs ho
  obtain ⟨z, hz⟩ : ∃ z : Int, z = S.last := ⟨_, rfl⟩
  have k6 : W.cell? ⟨c, 6, none⟩ = some (.int .i64 z) := by rw [hz]; exact at_cells hp.blk 6 rfl
  have z6 : W.frozen? ⟨c, 6, none⟩ = false := frz hp.blk
  have f1 : Fr [c] W (W.setCell ⟨c, 6, none⟩ (.int .i64 ((S.last + 1 : Nat) : Int))) := (Fr.refl _ _).setCell (.inl (by simp)) _
  have hb1 := set_blk (i := 6) (v := .int .i64 ((S.last + 1 : Nat) : Int)) hp.blk
  have hp1 := hp.setBlk (last' := S.last + 1) (top' := S.top) f1 hb1 hp.pick rfl
  have hg1 := hp.gmBlk f1
  have htc : tb ≠ c := by rintro rfl; exact absurd (ne_cells hp.blk hx) (by decide)
  have hx1 := (f1.block _ (Array.getElem?_eq_some_iff.1 hx).1 (by simpa using htc)).trans hx
  have ht1 := ht.fr f1 (away_cells hp.blk rfl hp.cB)
  have HW : Hid (rs.map absR = S.rows ∧ Ok S n ∧ Ok (pushB S t.abs) (n + 1) ∧ n ≤ 100000000000000 ∧ (∀ r ∈ S.rows, r.2.k ≠ t.abs.k) ∧ ATOk t.abs ∧ rs.length ≤ 1000) := ⟨habs, ho, hop, hn, hk, hat, hlen⟩
  have HB : Hid (B ≤ (W.setCell ⟨c, 6, none⟩ (.int .i64 ((S.last + 1 : Nat) : Int))).heap.size) := Nat.le_trans hBW f1.size
  have HG1 : Hid (Gm B pP true W (W.setCell ⟨c, 6, none⟩ (.int .i64 ((S.last + 1 : Nat) : Int)))) := hg1
  have hz0 : 0 ≤ z := by omega
  have hz1 : z + 1 ≤ 1000000000000000 := by omega
  have HZ : Hid (z = S.last) := hz
  have HP1 : Hid (CP (W.setCell ⟨c, 6, none⟩ (.int .i64 ((S.last + 1 : Nat) : Int))) B c pa pcap hb ov fb lb S.lim S.pk (S.last + 1) S.top n rs (rs.map mb) (failsF S.notes) (linksF S.notes)) := hp1
  have HX1 : Hid ((W.setCell ⟨c, 6, none⟩ (.int .i64 ((S.last + 1 : Nat) : Int))).heap[tb]? = some (.cells t.arr 35 (0, 0))) := hx1
  have HT1 : Hid (TrOk (W.setCell ⟨c, 6, none⟩ (.int .i64 ((S.last + 1 : Nat) : Int))) B t) := ht1
  clear h hp habs ho hop hn hk hat hlen hlast hz f1 hb1 hp1 hg1 hx hx1 ht ht1 htc hBW hlt
  dsimp only [sub, nav, kid, Try.f14, Option.getD, if_true, if_false]
  go_upto_region 7 with fail
  rw [show (z + 1) = ((S.last + 1 : Nat) : Int) by rw [HZ.out]; rfl]
  clear k6 z6 hz0 hz1
  generalize W.setCell ⟨c, 6, none⟩ (.int .i64 ((S.last + 1 : Nat) : Int)) = T1 at *
  obtain ⟨l1, hl1⟩ : ∃ l1, l1 = S.last + 1 := ⟨_, rfl⟩
  rw [← hl1] at HP1 ⊢
  have HL1 : Hid (l1 = S.last + 1) := hl1
  clear hl1
  -- what is held
  have hcb : c ≠ hb := by obtain ⟨es, cl, hk⟩ := HP1.out.held.blk; rintro rfl; rw [HP1.out.blk] at hk; cases hk
  have htb : tb ≠ hb := by obtain ⟨es, cl, hk⟩ := HP1.out.held.blk; rintro rfl; rw [HX1.out] at hk; cases hk
  have L3 : Hid (∀ w', Fr [hb] T1 w' → w'.cell? ⟨c, 2, none⟩ = some (.map (some hb))) := fun w' f => f.cellNew HP1.out.blk (by simpa using hcb) rfl
  have L9 : Hid (∀ w', Fr [hb] T1 w' → w'.cell? ⟨c, 6, none⟩ = some (.int .i64 (l1 : Int))) := fun w' f => f.cellNew HP1.out.blk (by simpa using hcb) rfl
  have L5 : Hid (∀ w', Fr [hb] T1 w' → w'.rangeAt tb 0 (kc t.k).toList) := fun w' f => Tr.key_range ((f.block _ (Array.getElem?_eq_some_iff.1 HX1.out).1 (by simpa using htb)).trans HX1.out)
  have L10 : Hid (∀ w', Fr [hb] T1 w' → w'.rangeAt tb 0 t.cl) := fun w' f => Tr.range ((f.block _ (Array.getElem?_eq_some_iff.1 HX1.out).1 (by simpa using htb)).trans HX1.out)
  refine reg_in (fun w' => Fr [hb] T1 w') ?_
  have hS0 : Fr [] T1 T1.drew := (Fr.refl _ _).drew
  have hS : Fr [hb] T1 T1.drew := (Fr.refl _ _).drew
  clear hcb htb
  generalize T1.drew = Y at *
  refine tk 0 (some 50) (.pointer (some ⟨c, 0, none⟩)) rfl rfl (Or.inl ⟨rfl, fun wq hSq => by first | rfl | go_simp⟩) (by decide +kernel) hS ?_
  simp only [Act.put, List.setIfInBounds_toArray, List.set_cons_zero, List.set_cons_succ]
  refine tk 1 (some 51) (.pointer (some ⟨c, 0, none⟩)) rfl rfl (Or.inl ⟨rfl, fun wq hSq => by first | rfl | go_simp⟩) (by decide +kernel) hS ?_
  simp only [Act.put, List.setIfInBounds_toArray, List.set_cons_zero, List.set_cons_succ]
  refine tk 2 (some 52) (.pointer (some ⟨c, 2, none⟩)) rfl rfl (Or.inl ⟨rfl, fun wq hSq => by first | rfl | go_simp⟩) (by decide +kernel) hS ?_
  simp only [Act.put, List.setIfInBounds_toArray, List.set_cons_zero, List.set_cons_succ]
  refine tk 3 (some 53) (.map (some hb)) rfl rfl (Or.inl ⟨rfl, fun wq hSq => by have q := L3.out wq hSq; go_simp⟩) (by decide +kernel) hS ?_
  simp only [Act.put, List.setIfInBounds_toArray, List.set_cons_zero, List.set_cons_succ]
  refine tk 4 (some 54) (.pointer (some ⟨tb, 0, none⟩)) rfl rfl (Or.inl ⟨rfl, fun wq hSq => by first | rfl | go_simp⟩) (by decide +kernel) hS ?_
  simp only [Act.put, List.setIfInBounds_toArray, List.set_cons_zero, List.set_cons_succ]
  refine tk 5 (some 55) (.agg (kc t.k)) rfl rfl ?_ (by decide +kernel) hS ?_
  · exact yieldsIf_load_mid rfl 29 (.tmp 54) rfl tb 0 rfl (kc t.k).toList _ (fun wq hSq => L5.out wq hSq) Try.underlying29 rfl (by rw [info29]; simp [kc_size])
  simp only [Act.put, List.setIfInBounds_toArray, List.set_cons_zero, List.set_cons_succ]
  refine tk 6 (some 56) (.pointer (some ⟨c, 0, none⟩)) rfl rfl (Or.inl ⟨rfl, fun wq hSq => by first | rfl | go_simp⟩) (by decide +kernel) hS ?_
  simp only [Act.put, List.setIfInBounds_toArray, List.set_cons_zero, List.set_cons_succ]
  refine tk 7 (some 57) (.pointer (some ⟨c, 0, none⟩)) rfl rfl (Or.inl ⟨rfl, fun wq hSq => by first | rfl | go_simp⟩) (by decide +kernel) hS ?_
  simp only [Act.put, List.setIfInBounds_toArray, List.set_cons_zero, List.set_cons_succ]
  refine tk 8 (some 58) (.pointer (some ⟨c, 6, none⟩)) rfl rfl (Or.inl ⟨rfl, fun wq hSq => by first | rfl | go_simp⟩) (by decide +kernel) hS ?_
  simp only [Act.put, List.setIfInBounds_toArray, List.set_cons_zero, List.set_cons_succ]
  refine tk 9 (some 59) (.int .i64 (l1 : Int)) rfl rfl (Or.inl ⟨rfl, fun wq hSq => by have q := L9.out wq hSq; go_simp⟩) (by decide +kernel) hS ?_
  simp only [Act.put, List.setIfInBounds_toArray, List.set_cons_zero, List.set_cons_succ]
  refine tk 10 (some 60) (.agg t.arr) rfl rfl ?_ (by decide +kernel) hS ?_
  · exact yieldsIf_load_mid rfl 35 (.tmp 3) rfl tb 0 rfl t.cl _ (fun wq hSq => L10.out wq hSq) Try.underlying35 rfl (by rw [Tr.cl_len]; exact info35)
  simp only [Act.put, List.setIfInBounds_toArray, List.set_cons_zero, List.set_cons_succ]
  refine wpAnyH_ready (rs := [11]) (by decide +kernel) (by simp) ?_
  refine AllReadyH.cons rfl (fun K hK => ?_) AllReadyH.nil
  go_simp
  refine (copied_fr (HT1.out.fr0 hS0) (Nat.le_trans HB.out hS0.size)).mono ?_
  rintro e Y2 ⟨t', rfl, ha', hT', f1, hfr⟩
  have HFR : Hid (FrL 8 W.heap.size t') := hfr.low (Nat.le_trans HG1.out.size hS0.size)
  clear hfr
  have hS0 := hS0.trans f1
  have hS : Fr [hb] T1 Y2 := hS0.sub (by simp)
  have hkk : t'.k = t.k := congrArg AT.k ha'
  have HT2 : Hid (t'.abs = t.abs ∧ TrOk Y2 B t' ∧ t'.k = t.k) := ⟨ha', hT', hkk⟩
  clear f1 ha' hT' hkk
  refine hK.out _ _ hS (fun _ => ?_)
  clear hK K
  try simp only [List.getElem_toArray, List.getElem_cons_succ, List.getElem_cons_zero, Act.put, List.setIfInBounds_toArray, List.set_cons_zero, List.set_cons_succ]
  refine tk 12 (some 62) (ev ((l1 : Int), t')) rfl rfl ?_ (by decide +kernel) hS ?_
  · exact yields_build88 rfl (.tmp 59) (.tmp 61) rfl (l1 : Int) t' rfl rfl
  simp only [Act.put, List.setIfInBounds_toArray, List.set_cons_zero, List.set_cons_succ]
  refine wpAnyH_ready (rs := [13]) (by decide +kernel) (by simp) ?_
  refine AllReadyH.cons rfl (fun K hK => ?_) AllReadyH.nil
  have hfn : fnd rs (((l1 : Int), t') : Rt).2.k = none := by
    rw [fnd_none]
    intro r hr
    have := HW.out.2.2.2.2.1 _ (mem_row HW.out.1 hr)
    show r.2.k ≠ t'.k
    rw [HT2.out.2.2]
    exact this
  obtain ⟨w3, h3, hM3, f3, hs3⟩ := (HP1.out.held.fr hS0 (by simp)).store (by have := HW.out.2.2.2.1; omega) (r := ((l1 : Int), t')) (by show kw t'.k; rw [HT2.out.2.2]; exact HW.out.2.2.2.2.2.1.kw) hfn
  have h3' : (Instr.mapUpdate 60 (.map (some hb)) (.agg (kc t.k)) (ev ((l1 : Int), t'))).run Try.prog Y2 = .ok () w3 := by rw [← HT2.out.2.2]; exact h3
  refine wp_update 60 (.tmp 53) (.tmp 55) (.tmp 62) rfl rfl rfl rfl h3' ?_
  clear h3 h3' hfn
  have hS3 : Fr [hb] T1 w3 := hS.trans f3
  refine hK.out _ _ hS3 (fun _ => ?_)
  clear hK K
  try simp only [List.getElem_toArray, List.getElem_cons_succ, List.getElem_cons_zero, Act.put, List.setIfInBounds_toArray, List.set_cons_zero, List.set_cons_succ]
  refine wpAnyH_done (by decide +kernel) ?_ _
  refine plain_end ?_
  have hp2 := (HP1.out.fr0 hS0).setHeld f3 (m := n + 1) (by omega) hM3 (fun r hr => by
    rcases List.mem_append.1 hr with h | h
    · exact .inl h
    · rw [List.mem_singleton.1 h]; exact .inr HT2.out.2.1)
  have HP2 : Hid (CP w3 B c pa pcap hb ov fb lb S.lim S.pk l1 S.top (n + 1) (rs ++ [((l1 : Int), t')]) (rs.map mb) (failsF S.notes) (linksF S.notes)) := hp2
  have HG2 : Hid (Gm B pP true W w3) := (HG1.out.trans (Gm.ofFr0 hS0)).trans ((HP1.out.fr0 hS0).gmHeld f3)
  have hx3 : w3.heap[tb]? = some (.cells t.arr 35 (0, 0)) := (hS3.block _ (Array.getElem?_eq_some_iff.1 HX1.out).1 (by obtain ⟨es, cl, hk⟩ := HP1.out.held.blk; intro hm; have e : tb = hb := (by simpa using hm); rw [← e, HX1.out] at hk; cases hk)).trans HX1.out
  have HX3 : Hid (w3.heap[tb]? = some (.cells t.arr 35 (0, 0)) ∧ B ≤ w3.heap.size) := ⟨hx3, Nat.le_trans HB.out hS3.size⟩
  have HA2 : Hid (t'.abs = t.abs ∧ t'.k = t.k) := ⟨HT2.out.1, HT2.out.2.2⟩
  clear hp2 hx3 hM3 f3 hs3 hS hS3 hS0 HP1 HG1 HX1 HT1 HT2 HB L3 L9 L5 L10
  -- the order
  go_upto_region 8 with fail
  obtain ⟨oa, oc, rfl, honil⟩ := own_slice HP2.out.ord
  obtain ⟨N1, hN1⟩ : ∃ N1, (rs.map mb).length = N1 := ⟨_, rfl⟩
  rw [hN1] at HP2 honil
  have HN1 : Hid ((rs.map mb).length = N1) := hN1
  clear hN1
  have HON : Hid (oa = none → N1 = 0 ∧ oc = 0) := honil
  have hcw3 : c < w3.heap.size := (Array.getElem?_eq_some_iff.1 HP2.out.blk).1
  obtain ⟨ie, i1, i2, i3, i4⟩ := info_parts ci83
  have HIE : Hid (Try.prog.info? 83 = some ie ∧ ie.zero = some (.agg (mcp (0, k00)).toArray) ∧ ie.size = 11 ∧ ie.bytes = 88) := ⟨i1, i2, i3, i4⟩
  have LC : Hid (∀ w', Fr [] w3 w' → w'.cell? ⟨c, 3, none⟩ = some (.slice oa N1 oc)) := fun w' f => f.cellNew HP2.out.blk (by simp) rfl
  have LT : Hid (∀ w' : World, w'.heap[tb]? = some (.cells t.arr 35 (0, 0)) → w'.rangeAt tb 0 (kc t.k).toList) := fun w' f => Tr.key_range f
  have hcO : ∀ k, (Value.slice oa N1 oc).ownBlock = some k → k ≠ c := fun k hk e => by subst e; exact own_ne HP2.out.ord HP2.out.blk (by decide) hk
  have htO : ∀ k, (Value.slice oa N1 oc).ownBlock = some k → k ≠ tb := fun k hk e => by subst e; exact own_ne HP2.out.ord HX3.out.1 (by decide) hk
  have HCO : Hid ((∀ k, (Value.slice oa N1 oc).ownBlock = some k → k ≠ c) ∧ (∀ k, (Value.slice oa N1 oc).ownBlock = some k → k ≠ tb) ∧ c < w3.heap.size ∧ tb ≠ c) := ⟨hcO, htO, hcw3, by rintro rfl; exact absurd (ne_cells HP2.out.blk HX3.out.1) (by decide)⟩
  have HNL : Hid (N1 + 1 ≤ maxLen ∧ (N1 + 1) * 88 ≤ 140737488355328) := by
    have := HW.out.2.2.2.2.2.2
    rw [← HN1.out, List.length_map]
    refine ⟨?_, ?_⟩
    · simp only [maxLen]; omega
    · omega
  have hF : Fr [] w3 w3.drew := (Fr.refl _ _).drew
  have hSi : w3.drew.cell? ⟨c, 6, none⟩ = some (.int .i64 (l1 : Int)) ∧ w3.drew.heap[tb]? = some (.cells t.arr 35 (0, 0)) := ⟨hF.cellNew HP2.out.blk (by simp) rfl, (hF.block _ (Array.getElem?_eq_some_iff.1 HX3.out.1).1 (by simp)).trans HX3.out.1⟩
  have hS := hSi
  clear hSi hcO htO hcw3 i1 i2 i3 i4 honil
  refine reg_in (fun w' => w'.cell? ⟨c, 6, none⟩ = some (.int .i64 (l1 : Int)) ∧ w'.heap[tb]? = some (.cells t.arr 35 (0, 0))) ?_
  generalize w3.drew = Y at *
  refine tk 0 (some 63) (.pointer (some ⟨c, 0, none⟩)) rfl rfl (Or.inl ⟨rfl, fun wq hSq => by first | rfl | go_simp⟩) (by decide +kernel) hS ?_
  simp only [Act.put, List.setIfInBounds_toArray, List.set_cons_zero, List.set_cons_succ]
  refine tk 1 (some 64) (.pointer (some ⟨c, 0, none⟩)) rfl rfl (Or.inl ⟨rfl, fun wq hSq => by first | rfl | go_simp⟩) (by decide +kernel) hS ?_
  simp only [Act.put, List.setIfInBounds_toArray, List.set_cons_zero, List.set_cons_succ]
  refine tk 2 (some 65) (.pointer (some ⟨c, 0, none⟩)) rfl rfl (Or.inl ⟨rfl, fun wq hSq => by first | rfl | go_simp⟩) (by decide +kernel) hS ?_
  simp only [Act.put, List.setIfInBounds_toArray, List.set_cons_zero, List.set_cons_succ]
  refine tk 3 (some 66) (.pointer (some ⟨c, 3, none⟩)) rfl rfl (Or.inl ⟨rfl, fun wq hSq => by first | rfl | go_simp⟩) (by decide +kernel) hS ?_
  simp only [Act.put, List.setIfInBounds_toArray, List.set_cons_zero, List.set_cons_succ]
  refine tk 5 (some 68) (.pointer (some ⟨c, 0, none⟩)) rfl rfl (Or.inl ⟨rfl, fun wq hSq => by first | rfl | go_simp⟩) (by decide +kernel) hS ?_
  simp only [Act.put, List.setIfInBounds_toArray, List.set_cons_zero, List.set_cons_succ]
  refine tk 6 (some 69) (.pointer (some ⟨c, 0, none⟩)) rfl rfl (Or.inl ⟨rfl, fun wq hSq => by first | rfl | go_simp⟩) (by decide +kernel) hS ?_
  simp only [Act.put, List.setIfInBounds_toArray, List.set_cons_zero, List.set_cons_succ]
  refine tk 7 (some 70) (.pointer (some ⟨c, 6, none⟩)) rfl rfl (Or.inl ⟨rfl, fun wq hSq => by first | rfl | go_simp⟩) (by decide +kernel) hS ?_
  simp only [Act.put, List.setIfInBounds_toArray, List.set_cons_zero, List.set_cons_succ]
  refine tk 8 (some 71) (.int .i64 (l1 : Int)) rfl rfl (Or.inl ⟨rfl, fun wq hSq => by have q := hSq.1; go_simp⟩) (by decide +kernel) hS ?_
  simp only [Act.put, List.setIfInBounds_toArray, List.set_cons_zero, List.set_cons_succ]
  refine tk 9 (some 72) (.pointer (some ⟨tb, 0, none⟩)) rfl rfl (Or.inl ⟨rfl, fun wq hSq => by first | rfl | go_simp⟩) (by decide +kernel) hS ?_
  simp only [Act.put, List.setIfInBounds_toArray, List.set_cons_zero, List.set_cons_succ]
  refine tk 10 (some 73) (.agg (kc t.k)) rfl rfl ?_ (by decide +kernel) hS ?_
  · exact yieldsIf_load_mid rfl 29 (.tmp 72) rfl tb 0 rfl (kc t.k).toList _ (fun wq hSq => LT.out wq hSq.2) Try.underlying29 rfl (by rw [info29]; simp [kc_size])
  simp only [Act.put, List.setIfInBounds_toArray, List.set_cons_zero, List.set_cons_succ]
  refine tk 11 (some 74) (.agg (mcp ((l1 : Int), t.k)).toArray) rfl rfl ?_ (by decide +kernel) hS ?_
  · exact yields_build83 rfl (.tmp 71) (.tmp 73) rfl (l1 : Int) t.k rfl rfl
  simp only [Act.put, List.setIfInBounds_toArray, List.set_cons_zero, List.set_cons_succ]
  refine wpAnyH_ready (rs := [4, 12]) (by decide +kernel) (by simp) ?_
  refine AllReadyH.cons rfl (fun K hK => ?_) ?_
  · skip
    have q := LC.out _ hF
    go_simp
    clear q
    refine hK.out _ _ hS (fun _ => ?_)
    clear hK K
    try simp only [List.getElem_toArray, List.getElem_cons_succ, List.getElem_cons_zero, Act.put, List.setIfInBounds_toArray, List.set_cons_zero, List.set_cons_succ]
    refine wpAnyH_ready (rs := [12]) (by decide +kernel) (by simp) ?_
    refine AllReadyH.cons rfl (fun K hK => ?_) AllReadyH.nil
    refine wp_slice1 61 83 11 88 (.tmp 74) (mcp ((l1 : Int), t.k)).toArray _ rfl rfl cu61 ci83 (by decide) (by decide) (mcp_size _) ?_
    have hbS := heap_alloc_new Y (.cells (mcp ((l1 : Int), t.k)).toArray 83)
    have hYs : w3.heap.size ≤ Y.heap.size := hF.size
    have hF := hF.alloc (.cells (mcp ((l1 : Int), t.k)).toArray 83)
    have hS : (Y.alloc (.cells (mcp ((l1 : Int), t.k)).toArray 83)).cell? ⟨c, 6, none⟩ = some (.int .i64 (l1 : Int)) ∧ (Y.alloc (.cells (mcp ((l1 : Int), t.k)).toArray 83)).heap[tb]? = some (.cells t.arr 35 (0, 0)) := ⟨((Fr.refl [] Y).alloc _).cell1 hS.1 (by simp), (((Fr.refl [] Y).alloc _).block _ (Array.getElem?_eq_some_iff.1 hS.2).1 (by simp)).trans hS.2⟩
    have hRB : ∀ (j : Nat) u, (mcp ((l1 : Int), t.k))[j]? = some u → (Y.alloc (.cells (mcp ((l1 : Int), t.k)).toArray 83)).cell? ((⟨Y.heap.size, 0, none⟩ : Addr).add j) = some u := fun j u hu => by have := range_block hbS j u (by simpa using hu); rw [Addr.add_mid]; exact this
    have HRB : Hid (∀ (j : Nat) u, (mcp ((l1 : Int), t.k))[j]? = some u → (Y.alloc (.cells (mcp ((l1 : Int), t.k)).toArray 83)).cell? ((⟨Y.heap.size, 0, none⟩ : Addr).add j) = some u) := hRB
    clear hRB hbS
    generalize Y.alloc (.cells (mcp ((l1 : Int), t.k)).toArray 83) = Z at *
    generalize Y.heap.size = sb at *
    refine hK.out _ _ hS (fun _ => ?_)
    clear hK K
    try simp only [List.getElem_toArray, List.getElem_cons_succ, List.getElem_cons_zero, Act.put, List.setIfInBounds_toArray, List.set_cons_zero, List.set_cons_succ]
    refine wpAnyH_ready (rs := [13]) (by decide +kernel) (by simp) ?_
    refine AllReadyH.cons rfl (fun K hK => ?_) AllReadyH.nil
    refine step_append_src rfl (.tmp 67) (.tmp 75) 61 rfl B 83 ie (.agg (mcp (0, k00)).toArray) 11 88 cu61 HIE.out.1 HIE.out.2.1 HIE.out.2.2.1 HIE.out.2.2.2 rfl (by decide) (.slice oa N1 oc) N1 (flatM (rs.map mb)) rfl (by have := own_fr HP2.out.ord hF (by simp); rw [HN1.out] at this; exact this) (some ⟨sb, 0, none⟩) 1 1 (mcp ((l1 : Int), t.k)) rfl (by rw [mcp_len]) (fun e => by cases e) (fun ad e => by cases e; exact HRB.out) (mcp_one _) HNL.out.1 HNL.out.2 (Nat.le_trans HX3.out.2 hF.size) ?_
    intro v' X2 ho2 hg2 hl2
    obtain ⟨va, vc, rfl, _⟩ := own_slice ho2
    have hF2 : Fr (Value.slice oa N1 oc).ownBlock.toList w3 X2 := (hF.sub (by simp)).trans (Fr.ofGrown hg2)
    have hcn : c ∉ (Value.slice oa N1 oc).ownBlock.toList := fun hm => HCO.out.1 c (by simpa using hm) rfl
    have htn : tb ∉ (Value.slice oa N1 oc).ownBlock.toList := fun hm => HCO.out.2.1 tb (by simpa using hm) rfl
    have hS : X2.cell? ⟨c, 6, none⟩ = some (.int .i64 (l1 : Int)) ∧ X2.heap[tb]? = some (.cells t.arr 35 (0, 0)) := ⟨hF2.cellNew HP2.out.blk hcn rfl, (hF2.block _ (Array.getElem?_eq_some_iff.1 HX3.out.1).1 htn).trans HX3.out.1⟩
    have k3 : X2.cell? ⟨c, 3, none⟩ = some (.slice oa N1 oc) := hF2.cellNew HP2.out.blk hcn rfl
    have z3 : X2.frozen? ⟨c, 3, none⟩ = false := hF2.frzNew HP2.out.blk hcn
    have hbX := (hF2.block _ HCO.out.2.2.1 hcn).trans HP2.out.blk
    refine hK.out _ _ hS (fun _ => ?_)
    clear hK K
    try simp only [List.getElem_toArray, List.getElem_cons_succ, List.getElem_cons_zero, Act.put, List.setIfInBounds_toArray, List.set_cons_zero, List.set_cons_succ]
    refine tk 14 (some 77) (.pointer (some ⟨c, 0, none⟩)) rfl rfl (Or.inl ⟨rfl, fun wq hSq => by first | rfl | go_simp⟩) (by decide +kernel) hS ?_
    simp only [Act.put, List.setIfInBounds_toArray, List.set_cons_zero, List.set_cons_succ]
    refine tk 15 (some 78) (.pointer (some ⟨c, 3, none⟩)) rfl rfl (Or.inl ⟨rfl, fun wq hSq => by first | rfl | go_simp⟩) (by decide +kernel) hS ?_
    simp only [Act.put, List.setIfInBounds_toArray, List.set_cons_zero, List.set_cons_succ]
    refine wpAnyH_ready (rs := [16]) (by decide +kernel) (by simp) ?_
    refine AllReadyH.cons rfl (fun K hK => ?_) AllReadyH.nil
    go_simp
    clear k3 z3
    have f3 : Fr [c] X2 (X2.setCell ⟨c, 3, none⟩ (.slice va (N1 + 1) vc)) := (Fr.refl _ _).setCell (.inl (by simp)) _
    have hS : (X2.setCell ⟨c, 3, none⟩ (.slice va (N1 + 1) vc)).cell? ⟨c, 6, none⟩ = some (.int .i64 (l1 : Int)) ∧ (X2.setCell ⟨c, 3, none⟩ (.slice va (N1 + 1) vc)).heap[tb]? = some (.cells t.arr 35 (0, 0)) := ⟨at_cells (set_blk (i := 3) (v := .slice va (N1 + 1) vc) hbX) 6 rfl, (f3.block _ (Array.getElem?_eq_some_iff.1 hS.2).1 (by simpa using HCO.out.2.2.2)).trans hS.2⟩
    have hbZ := set_blk (i := 3) (v := .slice va (N1 + 1) vc) hbX
    refine hK.out _ _ hS (fun _ => ?_)
    clear hK K
    try simp only [List.getElem_toArray, List.getElem_cons_succ, List.getElem_cons_zero, Act.put, List.setIfInBounds_toArray, List.set_cons_zero, List.set_cons_succ]
    refine wpAnyH_done (by decide +kernel) ?_ _
    refine plain_end ?_
    have hms : (rs ++ [((l1 : Int), t')]).map mb = rs.map mb ++ [((l1 : Int), t.k)] := by rw [List.map_append, ← HA2.out.2]; rfl
    have ho3 : X2.ownsRow B 83 11 (.slice va (N1 + 1) vc) ((rs ++ [((l1 : Int), t')]).map mb).length (flatM ((rs ++ [((l1 : Int), t')]).map mb)) := by
      rw [hms, flatM_app, List.length_append, HN1.out]
      simpa [flatM] using ho2
    have hp3 := HP2.out.setOrd hF2 (fun k hk => by simpa using hk) ho3 (last' := l1) (top' := S.top) f3 hbZ
    have HG3 := HG2.out.trans (HP2.out.gmOrd hF2 (fun k hk => by simpa using hk) f3)
    have hop := HW.out.2.2.1
    have habs2 : (rs ++ [((l1 : Int), t')]).map absR = (pushB S t.abs).rows := by
      rw [List.map_append, HW.out.1, HL1.out]
      show S.rows ++ [(((S.last + 1 : Nat) : Int), t'.abs)] = _
      rw [HA2.out.1]
      rfl
    have hsrt := srt_of habs2 hop
    have hlen3 : ((rs ++ [((l1 : Int), t')]).map mb).length = N1 + 1 := by rw [hms, List.length_append, HN1.out]; rfl
    have hN3 : N1 + 1 = S.rows.length + 1 := by rw [← HN1.out, List.length_map, rs_len2 HW.out.1]
    obtain ⟨g, gc, e1, hcx⟩ := own_cells ho3 (j := 0) (List.getElem?_eq_getElem (by rw [flatM_len, hlen3]; omega))
    injection e1 with e1 e2 e3
    subst e1 e3
    clear hcx
    have C := sort32_any (B := B) (g := g) (c := vc) (L := (rs ++ [((l1 : Int), t')]).map mb) (w := X2.setCell ⟨c, 3, none⟩ (.slice (some ⟨g, 0, none⟩) (N1 + 1) vc)) (by have := hp3.ord; rw [hlen3] at this ⊢; exact this) hsrt (by rw [hlen3]; have := HNL.out.2; omega)
    rw [hlen3] at C
    have HP3 : Hid (CP (X2.setCell ⟨c, 3, none⟩ (.slice (some ⟨g, 0, none⟩) (N1 + 1) vc)) B c pa pcap hb (.slice (some ⟨g, 0, none⟩) (N1 + 1) vc) fb lb S.lim S.pk l1 S.top (n + 1) (rs ++ [((l1 : Int), t')]) ((rs ++ [((l1 : Int), t')]).map mb) (failsF S.notes) (linksF S.notes)) := hp3
    have k3 : (X2.setCell ⟨c, 3, none⟩ (.slice (some ⟨g, 0, none⟩) (N1 + 1) vc)).cell? ⟨c, 3, none⟩ = some (.slice (some ⟨g, 0, none⟩) (N1 + 1) vc) := at_cells hp3.blk 3 rfl
    have HG3 : Hid (Gm B pP true W (X2.setCell ⟨c, 3, none⟩ (.slice (some ⟨g, 0, none⟩) (N1 + 1) vc))) := HG3
    have HAB : Hid ((rs ++ [((l1 : Int), t')]).map absR = (pushB S t.abs).rows) := habs2
    have HN3 : Hid (N1 + 1 = S.rows.length + 1) := hN3
    clear hms ho3 hp3 hop habs2 hsrt hlen3 hN3 e2 hF2 hcn htn hbX f3 hbZ hS ho2 hg2 hl2 HP2 HG2 HX3 HW HA2 HON HIE LC LT HCO HNL HRB hYs hF HN1
    generalize N1 + 1 = N2 at *
    generalize X2.setCell ⟨c, 3, none⟩ (.slice (some ⟨g, 0, none⟩) N2 vc) = X3 at *
    go_upto_region 10 with (go_at_call 32; refine C.mono ?_; rintro e w4 ⟨rfl, f4⟩; clear C k3)
    have HP4 : Hid (CP w4 B c pa pcap hb (.slice (some ⟨g, 0, none⟩) N2 vc) fb lb S.lim S.pk l1 S.top (n + 1) (rs ++ [((l1 : Int), t')]) ((rs ++ [((l1 : Int), t')]).map mb) (failsF S.notes) (linksF S.notes)) := HP3.out.fr0 f4
    have HG4 : Hid (Gm B pP true W w4) := HG3.out.trans (Gm.ofFr0 f4)
    clear f4 HP3 HG3
    have hF : Fr [] w4 w4.drew := (Fr.refl _ _).drew
    have hS : w4.drew.cell? ⟨c, 3, none⟩ = some (.slice (some ⟨g, 0, none⟩) N2 vc) := hF.cellNew HP4.out.blk (by simp) rfl
    have k7 : w4.drew.cell? ⟨c, 7, none⟩ = some (.int .i64 S.top) := hF.cellNew HP4.out.blk (by simp) rfl
    have z7 : w4.drew.frozen? ⟨c, 7, none⟩ = false := hF.frzNew HP4.out.blk (by simp)
    have hbY := (hF.block _ (Array.getElem?_eq_some_iff.1 HP4.out.blk).1 (by simp)).trans HP4.out.blk
    refine reg_in (fun w' => w'.cell? ⟨c, 3, none⟩ = some (.slice (some ⟨g, 0, none⟩) N2 vc)) ?_
    generalize w4.drew = Y at *
    refine tk 0 (some 84) (.pointer (some ⟨c, 0, none⟩)) rfl rfl (Or.inl ⟨rfl, fun wq hSq => by first | rfl | go_simp⟩) (by decide +kernel) hS ?_
    simp only [Act.put, List.setIfInBounds_toArray, List.set_cons_zero, List.set_cons_succ]
    refine tk 1 (some 85) (.pointer (some ⟨c, 0, none⟩)) rfl rfl (Or.inl ⟨rfl, fun wq hSq => by first | rfl | go_simp⟩) (by decide +kernel) hS ?_
    simp only [Act.put, List.setIfInBounds_toArray, List.set_cons_zero, List.set_cons_succ]
    refine tk 2 (some 86) (.pointer (some ⟨c, 0, none⟩)) rfl rfl (Or.inl ⟨rfl, fun wq hSq => by first | rfl | go_simp⟩) (by decide +kernel) hS ?_
    simp only [Act.put, List.setIfInBounds_toArray, List.set_cons_zero, List.set_cons_succ]
    refine tk 3 (some 87) (.pointer (some ⟨c, 7, none⟩)) rfl rfl (Or.inl ⟨rfl, fun wq hSq => by first | rfl | go_simp⟩) (by decide +kernel) hS ?_
    simp only [Act.put, List.setIfInBounds_toArray, List.set_cons_zero, List.set_cons_succ]
    refine tk 5 (some 89) (.pointer (some ⟨c, 0, none⟩)) rfl rfl (Or.inl ⟨rfl, fun wq hSq => by first | rfl | go_simp⟩) (by decide +kernel) hS ?_
    simp only [Act.put, List.setIfInBounds_toArray, List.set_cons_zero, List.set_cons_succ]
    refine tk 6 (some 90) (.pointer (some ⟨c, 0, none⟩)) rfl rfl (Or.inl ⟨rfl, fun wq hSq => by first | rfl | go_simp⟩) (by decide +kernel) hS ?_
    simp only [Act.put, List.setIfInBounds_toArray, List.set_cons_zero, List.set_cons_succ]
    refine tk 7 (some 91) (.pointer (some ⟨c, 3, none⟩)) rfl rfl (Or.inl ⟨rfl, fun wq hSq => by first | rfl | go_simp⟩) (by decide +kernel) hS ?_
    simp only [Act.put, List.setIfInBounds_toArray, List.set_cons_zero, List.set_cons_succ]
    refine tk 8 (some 92) (.slice (some ⟨g, 0, none⟩) N2 vc) rfl rfl (Or.inl ⟨rfl, fun wq hSq => by have q := hSq; go_simp⟩) (by decide +kernel) hS ?_
    simp only [Act.put, List.setIfInBounds_toArray, List.set_cons_zero, List.set_cons_succ]
    refine tk 9 (some 93) (.int .i64 (N2 : Int)) rfl rfl (Or.inl ⟨rfl, fun wq hSq => by go_simp⟩) (by decide +kernel) hS ?_
    simp only [Act.put, List.setIfInBounds_toArray, List.set_cons_zero, List.set_cons_succ]
    refine wpAnyH_ready (rs := [4]) (by decide +kernel) (by simp) ?_
    refine AllReadyH.cons rfl (fun K hK => ?_) AllReadyH.nil
    go_simp
    refine hK.out _ _ hS (fun _ => ?_)
    clear hK K
    try simp only [List.getElem_toArray, List.getElem_cons_succ, List.getElem_cons_zero, Act.put, List.setIfInBounds_toArray, List.set_cons_zero, List.set_cons_succ]
    refine tk 10 (some 94) (.int .i64 (max (S.top : Int) (N2 : Int))) rfl rfl (Or.inl ⟨rfl, fun wq hSq => by go_simp⟩) (by decide +kernel) hS ?_
    simp only [Act.put, List.setIfInBounds_toArray, List.set_cons_zero, List.set_cons_succ]
    refine tk 11 (some 95) (.pointer (some ⟨c, 0, none⟩)) rfl rfl (Or.inl ⟨rfl, fun wq hSq => by first | rfl | go_simp⟩) (by decide +kernel) hS ?_
    simp only [Act.put, List.setIfInBounds_toArray, List.set_cons_zero, List.set_cons_succ]
    refine tk 12 (some 96) (.pointer (some ⟨c, 7, none⟩)) rfl rfl (Or.inl ⟨rfl, fun wq hSq => by first | rfl | go_simp⟩) (by decide +kernel) hS ?_
    simp only [Act.put, List.setIfInBounds_toArray, List.set_cons_zero, List.set_cons_succ]
    refine wpAnyH_ready (rs := [13]) (by decide +kernel) (by simp) ?_
    refine AllReadyH.cons rfl (fun K hK => ?_) AllReadyH.nil
    go_simp
    have hf := set_blk (i := 7) (v := .int .i64 (max (S.top : Int) (N2 : Int))) hbY
    have f7 : Fr [c] Y (Y.setCell ⟨c, 7, none⟩ (.int .i64 (max (S.top : Int) (N2 : Int)))) := (Fr.refl _ _).setCell (.inl (by simp)) _
    have hS : (Y.setCell ⟨c, 7, none⟩ (.int .i64 (max (S.top : Int) (N2 : Int)))).cell? ⟨c, 3, none⟩ = some (.slice (some ⟨g, 0, none⟩) N2 vc) := at_cells hf 3 rfl
    refine hK.out _ _ hS (fun _ => ?_)
    clear hK K
    try simp only [List.getElem_toArray, List.getElem_cons_succ, List.getElem_cons_zero, Act.put, List.setIfInBounds_toArray, List.set_cons_zero, List.set_cons_succ]
    refine wpAnyH_done (by decide +kernel) ?_ _
    refine plain_end ?_
    rw [max_cast] at *
    have hp5 := (HP4.out.fr0 hF).setBlk (last' := l1) (top' := max S.top N2) f7 hf (HP4.out.fr0 hF).pick rfl
    have HF : Hid (CA (Y.setCell ⟨c, 7, none⟩ (.int .i64 ((max S.top N2 : Nat) : Int))) B c (n + 1) (rs ++ [((l1 : Int), t')]) (pushB S t.abs) ∧ Gm B pP true W (Y.setCell ⟨c, 7, none⟩ (.int .i64 ((max S.top N2 : Nat) : Int)))) := by
      refine ⟨⟨⟨pa, pcap, hb, .slice (some ⟨g, 0, none⟩) N2 vc, fb, lb, ?_⟩, HAB.out⟩, (HG4.out.trans (Gm.ofFr0 hF)).trans ((HP4.out.fr0 hF).gmBlk f7)⟩
      show CP _ B c pa pcap hb _ fb lb S.lim S.pk (S.last + 1) (max S.top (S.rows.length + 1)) (n + 1) _ _ (failsF S.notes) (linksF S.notes)
      rw [← HL1.out, ← HN3.out]
      exact hp5
    have k6 : (Y.setCell ⟨c, 7, none⟩ (.int .i64 ((max S.top N2 : Nat) : Int))).cell? ⟨c, 6, none⟩ = some (.int .i64 (l1 : Int)) := at_cells hf 6 rfl
    clear hp5 hf f7 hS k7 z7 hbY hF HP4 HG4 HAB
    generalize Y.setCell ⟨c, 7, none⟩ (.int .i64 ((max S.top N2 : Nat) : Int)) = w5 at *
    go_wp2
    go_ret
    exact ⟨by rw [← HL1.out]; rfl, ⟨t', by rw [← HL1.out]; exact HF.out.1, HFR.out⟩, HF.out.2⟩
  refine AllReadyH.cons rfl (fun K hK => ?_) AllReadyH.nil
  refine wp_slice1 61 83 11 88 (.tmp 74) (mcp ((l1 : Int), t.k)).toArray _ rfl rfl cu61 ci83 (by decide) (by decide) (mcp_size _) ?_
  have hbS := heap_alloc_new Y (.cells (mcp ((l1 : Int), t.k)).toArray 83)
  have hYs : w3.heap.size ≤ Y.heap.size := hF.size
  have hF := hF.alloc (.cells (mcp ((l1 : Int), t.k)).toArray 83)
  have hS : (Y.alloc (.cells (mcp ((l1 : Int), t.k)).toArray 83)).cell? ⟨c, 6, none⟩ = some (.int .i64 (l1 : Int)) ∧ (Y.alloc (.cells (mcp ((l1 : Int), t.k)).toArray 83)).heap[tb]? = some (.cells t.arr 35 (0, 0)) := ⟨((Fr.refl [] Y).alloc _).cell1 hS.1 (by simp), (((Fr.refl [] Y).alloc _).block _ (Array.getElem?_eq_some_iff.1 hS.2).1 (by simp)).trans hS.2⟩
  have hRB : ∀ (j : Nat) u, (mcp ((l1 : Int), t.k))[j]? = some u → (Y.alloc (.cells (mcp ((l1 : Int), t.k)).toArray 83)).cell? ((⟨Y.heap.size, 0, none⟩ : Addr).add j) = some u := fun j u hu => by have := range_block hbS j u (by simpa using hu); rw [Addr.add_mid]; exact this
  have HRB : Hid (∀ (j : Nat) u, (mcp ((l1 : Int), t.k))[j]? = some u → (Y.alloc (.cells (mcp ((l1 : Int), t.k)).toArray 83)).cell? ((⟨Y.heap.size, 0, none⟩ : Addr).add j) = some u) := hRB
  clear hRB hbS
  generalize Y.alloc (.cells (mcp ((l1 : Int), t.k)).toArray 83) = Z at *
  generalize Y.heap.size = sb at *
  refine hK.out _ _ hS (fun _ => ?_)
  clear hK K
  try simp only [List.getElem_toArray, List.getElem_cons_succ, List.getElem_cons_zero, Act.put, List.setIfInBounds_toArray, List.set_cons_zero, List.set_cons_succ]
  refine wpAnyH_ready (rs := [4]) (by decide +kernel) (by simp) ?_
  refine AllReadyH.cons rfl (fun K hK => ?_) AllReadyH.nil
  have q := LC.out _ hF
  go_simp
  clear q
  refine hK.out _ _ hS (fun _ => ?_)
  clear hK K
  try simp only [List.getElem_toArray, List.getElem_cons_succ, List.getElem_cons_zero, Act.put, List.setIfInBounds_toArray, List.set_cons_zero, List.set_cons_succ]
  refine wpAnyH_ready (rs := [13]) (by decide +kernel) (by simp) ?_
  refine AllReadyH.cons rfl (fun K hK => ?_) AllReadyH.nil
  refine step_append_src rfl (.tmp 67) (.tmp 75) 61 rfl B 83 ie (.agg (mcp (0, k00)).toArray) 11 88 cu61 HIE.out.1 HIE.out.2.1 HIE.out.2.2.1 HIE.out.2.2.2 rfl (by decide) (.slice oa N1 oc) N1 (flatM (rs.map mb)) rfl (by have := own_fr HP2.out.ord hF (by simp); rw [HN1.out] at this; exact this) (some ⟨sb, 0, none⟩) 1 1 (mcp ((l1 : Int), t.k)) rfl (by rw [mcp_len]) (fun e => by cases e) (fun ad e => by cases e; exact HRB.out) (mcp_one _) HNL.out.1 HNL.out.2 (Nat.le_trans HX3.out.2 hF.size) ?_
  intro v' X2 ho2 hg2 hl2
  obtain ⟨va, vc, rfl, _⟩ := own_slice ho2
  have hF2 : Fr (Value.slice oa N1 oc).ownBlock.toList w3 X2 := (hF.sub (by simp)).trans (Fr.ofGrown hg2)
  have hcn : c ∉ (Value.slice oa N1 oc).ownBlock.toList := fun hm => HCO.out.1 c (by simpa using hm) rfl
  have htn : tb ∉ (Value.slice oa N1 oc).ownBlock.toList := fun hm => HCO.out.2.1 tb (by simpa using hm) rfl
  have hS : X2.cell? ⟨c, 6, none⟩ = some (.int .i64 (l1 : Int)) ∧ X2.heap[tb]? = some (.cells t.arr 35 (0, 0)) := ⟨hF2.cellNew HP2.out.blk hcn rfl, (hF2.block _ (Array.getElem?_eq_some_iff.1 HX3.out.1).1 htn).trans HX3.out.1⟩
  have k3 : X2.cell? ⟨c, 3, none⟩ = some (.slice oa N1 oc) := hF2.cellNew HP2.out.blk hcn rfl
  have z3 : X2.frozen? ⟨c, 3, none⟩ = false := hF2.frzNew HP2.out.blk hcn
  have hbX := (hF2.block _ HCO.out.2.2.1 hcn).trans HP2.out.blk
  refine hK.out _ _ hS (fun _ => ?_)
  clear hK K
  try simp only [List.getElem_toArray, List.getElem_cons_succ, List.getElem_cons_zero, Act.put, List.setIfInBounds_toArray, List.set_cons_zero, List.set_cons_succ]
  refine tk 14 (some 77) (.pointer (some ⟨c, 0, none⟩)) rfl rfl (Or.inl ⟨rfl, fun wq hSq => by first | rfl | go_simp⟩) (by decide +kernel) hS ?_
  simp only [Act.put, List.setIfInBounds_toArray, List.set_cons_zero, List.set_cons_succ]
  refine tk 15 (some 78) (.pointer (some ⟨c, 3, none⟩)) rfl rfl (Or.inl ⟨rfl, fun wq hSq => by first | rfl | go_simp⟩) (by decide +kernel) hS ?_
  simp only [Act.put, List.setIfInBounds_toArray, List.set_cons_zero, List.set_cons_succ]
  refine wpAnyH_ready (rs := [16]) (by decide +kernel) (by simp) ?_
  refine AllReadyH.cons rfl (fun K hK => ?_) AllReadyH.nil
  go_simp
  clear k3 z3
  have f3 : Fr [c] X2 (X2.setCell ⟨c, 3, none⟩ (.slice va (N1 + 1) vc)) := (Fr.refl _ _).setCell (.inl (by simp)) _
  have hS : (X2.setCell ⟨c, 3, none⟩ (.slice va (N1 + 1) vc)).cell? ⟨c, 6, none⟩ = some (.int .i64 (l1 : Int)) ∧ (X2.setCell ⟨c, 3, none⟩ (.slice va (N1 + 1) vc)).heap[tb]? = some (.cells t.arr 35 (0, 0)) := ⟨at_cells (set_blk (i := 3) (v := .slice va (N1 + 1) vc) hbX) 6 rfl, (f3.block _ (Array.getElem?_eq_some_iff.1 hS.2).1 (by simpa using HCO.out.2.2.2)).trans hS.2⟩
  have hbZ := set_blk (i := 3) (v := .slice va (N1 + 1) vc) hbX
  refine hK.out _ _ hS (fun _ => ?_)
  clear hK K
  try simp only [List.getElem_toArray, List.getElem_cons_succ, List.getElem_cons_zero, Act.put, List.setIfInBounds_toArray, List.set_cons_zero, List.set_cons_succ]
  refine wpAnyH_done (by decide +kernel) ?_ _
  refine plain_end ?_
  have hms : (rs ++ [((l1 : Int), t')]).map mb = rs.map mb ++ [((l1 : Int), t.k)] := by rw [List.map_append, ← HA2.out.2]; rfl
  have ho3 : X2.ownsRow B 83 11 (.slice va (N1 + 1) vc) ((rs ++ [((l1 : Int), t')]).map mb).length (flatM ((rs ++ [((l1 : Int), t')]).map mb)) := by
    rw [hms, flatM_app, List.length_append, HN1.out]
    simpa [flatM] using ho2
  have hp3 := HP2.out.setOrd hF2 (fun k hk => by simpa using hk) ho3 (last' := l1) (top' := S.top) f3 hbZ
  have HG3 := HG2.out.trans (HP2.out.gmOrd hF2 (fun k hk => by simpa using hk) f3)
  have hop := HW.out.2.2.1
  have habs2 : (rs ++ [((l1 : Int), t')]).map absR = (pushB S t.abs).rows := by
    rw [List.map_append, HW.out.1, HL1.out]
    show S.rows ++ [(((S.last + 1 : Nat) : Int), t'.abs)] = _
    rw [HA2.out.1]
    rfl
  have hsrt := srt_of habs2 hop
  have hlen3 : ((rs ++ [((l1 : Int), t')]).map mb).length = N1 + 1 := by rw [hms, List.length_append, HN1.out]; rfl
  have hN3 : N1 + 1 = S.rows.length + 1 := by rw [← HN1.out, List.length_map, rs_len2 HW.out.1]
  obtain ⟨g, gc, e1, hcx⟩ := own_cells ho3 (j := 0) (List.getElem?_eq_getElem (by rw [flatM_len, hlen3]; omega))
  injection e1 with e1 e2 e3
  subst e1 e3
  clear hcx
  have C := sort32_any (B := B) (g := g) (c := vc) (L := (rs ++ [((l1 : Int), t')]).map mb) (w := X2.setCell ⟨c, 3, none⟩ (.slice (some ⟨g, 0, none⟩) (N1 + 1) vc)) (by have := hp3.ord; rw [hlen3] at this ⊢; exact this) hsrt (by rw [hlen3]; have := HNL.out.2; omega)
  rw [hlen3] at C
  have HP3 : Hid (CP (X2.setCell ⟨c, 3, none⟩ (.slice (some ⟨g, 0, none⟩) (N1 + 1) vc)) B c pa pcap hb (.slice (some ⟨g, 0, none⟩) (N1 + 1) vc) fb lb S.lim S.pk l1 S.top (n + 1) (rs ++ [((l1 : Int), t')]) ((rs ++ [((l1 : Int), t')]).map mb) (failsF S.notes) (linksF S.notes)) := hp3
  have k3 : (X2.setCell ⟨c, 3, none⟩ (.slice (some ⟨g, 0, none⟩) (N1 + 1) vc)).cell? ⟨c, 3, none⟩ = some (.slice (some ⟨g, 0, none⟩) (N1 + 1) vc) := at_cells hp3.blk 3 rfl
  have HG3 : Hid (Gm B pP true W (X2.setCell ⟨c, 3, none⟩ (.slice (some ⟨g, 0, none⟩) (N1 + 1) vc))) := HG3
  have HAB : Hid ((rs ++ [((l1 : Int), t')]).map absR = (pushB S t.abs).rows) := habs2
  have HN3 : Hid (N1 + 1 = S.rows.length + 1) := hN3
  clear hms ho3 hp3 hop habs2 hsrt hlen3 hN3 e2 hF2 hcn htn hbX f3 hbZ hS ho2 hg2 hl2 HP2 HG2 HX3 HW HA2 HON HIE LC LT HCO HNL HRB hYs hF HN1
  generalize N1 + 1 = N2 at *
  generalize X2.setCell ⟨c, 3, none⟩ (.slice (some ⟨g, 0, none⟩) N2 vc) = X3 at *
  go_upto_region 10 with (go_at_call 32; refine C.mono ?_; rintro e w4 ⟨rfl, f4⟩; clear C k3)
  have HP4 : Hid (CP w4 B c pa pcap hb (.slice (some ⟨g, 0, none⟩) N2 vc) fb lb S.lim S.pk l1 S.top (n + 1) (rs ++ [((l1 : Int), t')]) ((rs ++ [((l1 : Int), t')]).map mb) (failsF S.notes) (linksF S.notes)) := HP3.out.fr0 f4
  have HG4 : Hid (Gm B pP true W w4) := HG3.out.trans (Gm.ofFr0 f4)
  clear f4 HP3 HG3
  have hF : Fr [] w4 w4.drew := (Fr.refl _ _).drew
  have hS : w4.drew.cell? ⟨c, 3, none⟩ = some (.slice (some ⟨g, 0, none⟩) N2 vc) := hF.cellNew HP4.out.blk (by simp) rfl
  have k7 : w4.drew.cell? ⟨c, 7, none⟩ = some (.int .i64 S.top) := hF.cellNew HP4.out.blk (by simp) rfl
  have z7 : w4.drew.frozen? ⟨c, 7, none⟩ = false := hF.frzNew HP4.out.blk (by simp)
  have hbY := (hF.block _ (Array.getElem?_eq_some_iff.1 HP4.out.blk).1 (by simp)).trans HP4.out.blk
  refine reg_in (fun w' => w'.cell? ⟨c, 3, none⟩ = some (.slice (some ⟨g, 0, none⟩) N2 vc)) ?_
  generalize w4.drew = Y at *
  refine tk 0 (some 84) (.pointer (some ⟨c, 0, none⟩)) rfl rfl (Or.inl ⟨rfl, fun wq hSq => by first | rfl | go_simp⟩) (by decide +kernel) hS ?_
  simp only [Act.put, List.setIfInBounds_toArray, List.set_cons_zero, List.set_cons_succ]
  refine tk 1 (some 85) (.pointer (some ⟨c, 0, none⟩)) rfl rfl (Or.inl ⟨rfl, fun wq hSq => by first | rfl | go_simp⟩) (by decide +kernel) hS ?_
  simp only [Act.put, List.setIfInBounds_toArray, List.set_cons_zero, List.set_cons_succ]
  refine tk 2 (some 86) (.pointer (some ⟨c, 0, none⟩)) rfl rfl (Or.inl ⟨rfl, fun wq hSq => by first | rfl | go_simp⟩) (by decide +kernel) hS ?_
  simp only [Act.put, List.setIfInBounds_toArray, List.set_cons_zero, List.set_cons_succ]
  refine tk 3 (some 87) (.pointer (some ⟨c, 7, none⟩)) rfl rfl (Or.inl ⟨rfl, fun wq hSq => by first | rfl | go_simp⟩) (by decide +kernel) hS ?_
  simp only [Act.put, List.setIfInBounds_toArray, List.set_cons_zero, List.set_cons_succ]
  refine tk 5 (some 89) (.pointer (some ⟨c, 0, none⟩)) rfl rfl (Or.inl ⟨rfl, fun wq hSq => by first | rfl | go_simp⟩) (by decide +kernel) hS ?_
  simp only [Act.put, List.setIfInBounds_toArray, List.set_cons_zero, List.set_cons_succ]
  refine tk 6 (some 90) (.pointer (some ⟨c, 0, none⟩)) rfl rfl (Or.inl ⟨rfl, fun wq hSq => by first | rfl | go_simp⟩) (by decide +kernel) hS ?_
  simp only [Act.put, List.setIfInBounds_toArray, List.set_cons_zero, List.set_cons_succ]
  refine tk 7 (some 91) (.pointer (some ⟨c, 3, none⟩)) rfl rfl (Or.inl ⟨rfl, fun wq hSq => by first | rfl | go_simp⟩) (by decide +kernel) hS ?_
  simp only [Act.put, List.setIfInBounds_toArray, List.set_cons_zero, List.set_cons_succ]
  refine tk 8 (some 92) (.slice (some ⟨g, 0, none⟩) N2 vc) rfl rfl (Or.inl ⟨rfl, fun wq hSq => by have q := hSq; go_simp⟩) (by decide +kernel) hS ?_
  simp only [Act.put, List.setIfInBounds_toArray, List.set_cons_zero, List.set_cons_succ]
  refine tk 9 (some 93) (.int .i64 (N2 : Int)) rfl rfl (Or.inl ⟨rfl, fun wq hSq => by go_simp⟩) (by decide +kernel) hS ?_
  simp only [Act.put, List.setIfInBounds_toArray, List.set_cons_zero, List.set_cons_succ]
  refine wpAnyH_ready (rs := [4]) (by decide +kernel) (by simp) ?_
  refine AllReadyH.cons rfl (fun K hK => ?_) AllReadyH.nil
  go_simp
  refine hK.out _ _ hS (fun _ => ?_)
  clear hK K
  try simp only [List.getElem_toArray, List.getElem_cons_succ, List.getElem_cons_zero, Act.put, List.setIfInBounds_toArray, List.set_cons_zero, List.set_cons_succ]
  refine tk 10 (some 94) (.int .i64 (max (S.top : Int) (N2 : Int))) rfl rfl (Or.inl ⟨rfl, fun wq hSq => by go_simp⟩) (by decide +kernel) hS ?_
  simp only [Act.put, List.setIfInBounds_toArray, List.set_cons_zero, List.set_cons_succ]
  refine tk 11 (some 95) (.pointer (some ⟨c, 0, none⟩)) rfl rfl (Or.inl ⟨rfl, fun wq hSq => by first | rfl | go_simp⟩) (by decide +kernel) hS ?_
  simp only [Act.put, List.setIfInBounds_toArray, List.set_cons_zero, List.set_cons_succ]
  refine tk 12 (some 96) (.pointer (some ⟨c, 7, none⟩)) rfl rfl (Or.inl ⟨rfl, fun wq hSq => by first | rfl | go_simp⟩) (by decide +kernel) hS ?_
  simp only [Act.put, List.setIfInBounds_toArray, List.set_cons_zero, List.set_cons_succ]
  refine wpAnyH_ready (rs := [13]) (by decide +kernel) (by simp) ?_
  refine AllReadyH.cons rfl (fun K hK => ?_) AllReadyH.nil
  go_simp
  have hf := set_blk (i := 7) (v := .int .i64 (max (S.top : Int) (N2 : Int))) hbY
  have f7 : Fr [c] Y (Y.setCell ⟨c, 7, none⟩ (.int .i64 (max (S.top : Int) (N2 : Int)))) := (Fr.refl _ _).setCell (.inl (by simp)) _
  have hS : (Y.setCell ⟨c, 7, none⟩ (.int .i64 (max (S.top : Int) (N2 : Int)))).cell? ⟨c, 3, none⟩ = some (.slice (some ⟨g, 0, none⟩) N2 vc) := at_cells hf 3 rfl
  refine hK.out _ _ hS (fun _ => ?_)
  clear hK K
  try simp only [List.getElem_toArray, List.getElem_cons_succ, List.getElem_cons_zero, Act.put, List.setIfInBounds_toArray, List.set_cons_zero, List.set_cons_succ]
  refine wpAnyH_done (by decide +kernel) ?_ _
  refine plain_end ?_
  rw [max_cast] at *
  have hp5 := (HP4.out.fr0 hF).setBlk (last' := l1) (top' := max S.top N2) f7 hf (HP4.out.fr0 hF).pick rfl
  have HF : Hid (CA (Y.setCell ⟨c, 7, none⟩ (.int .i64 ((max S.top N2 : Nat) : Int))) B c (n + 1) (rs ++ [((l1 : Int), t')]) (pushB S t.abs) ∧ Gm B pP true W (Y.setCell ⟨c, 7, none⟩ (.int .i64 ((max S.top N2 : Nat) : Int)))) := by
    refine ⟨⟨⟨pa, pcap, hb, .slice (some ⟨g, 0, none⟩) N2 vc, fb, lb, ?_⟩, HAB.out⟩, (HG4.out.trans (Gm.ofFr0 hF)).trans ((HP4.out.fr0 hF).gmBlk f7)⟩
    show CP _ B c pa pcap hb _ fb lb S.lim S.pk (S.last + 1) (max S.top (S.rows.length + 1)) (n + 1) _ _ (failsF S.notes) (linksF S.notes)
    rw [← HL1.out, ← HN3.out]
    exact hp5
  have k6 : (Y.setCell ⟨c, 7, none⟩ (.int .i64 ((max S.top N2 : Nat) : Int))).cell? ⟨c, 6, none⟩ = some (.int .i64 (l1 : Int)) := at_cells hf 6 rfl
  clear hp5 hf f7 hS k7 z7 hbY hF HP4 HG4 HAB
  generalize Y.setCell ⟨c, 7, none⟩ (.int .i64 ((max S.top N2 : Nat) : Int)) = w5 at *
  go_wp2
  go_ret
  exact ⟨by rw [← HL1.out]; rfl, ⟨t', by rw [← HL1.out]; exact HF.out.1, HFR.out⟩, HF.out.2⟩
set_option maxRecDepth 100000 in
set_option maxHeartbeats 8000000 in
theorem put_fr {w : World} {B c n : Nat} {rs : List Rt} {S : Bk} (h : CA w B c n rs S) (ho : Ok S n) (hn : n ≤ 100000000000000) (hBw : B ≤ w.heap.size) (h0 : S.lim ≠ 0) (hpw : ∀ x ∈ S.pk, W64 x) {t : Tr} (ht : TrOk w B t) (hat : ATOk t.abs) :
    Calls Try.prog 14 #[.pointer (some ⟨c, 0, none⟩), .agg t.arr] w fun e w' => e = .returned (.int .i64 (putR S)) ∧ (∃ rs' t', CA w' B c (n + 1) (rs' ++ [(putR S, t')]) (putB S t.abs) ∧ FrL 8 w.heap.size t') ∧ Gm B pP true w w' := by
  have F1 : Fr [] w (w.alloc (.cells t.arr 35)) := (Fr.refl _ _).alloc _
  have h1 := h.fr0 F1
  have hx := heap_alloc_new w (.cells t.arr 35)
  have ht1 := ht.fr0 F1
  have hB1 : B ≤ (w.alloc (.cells t.arr 35)).heap.size := Nat.le_trans hBw F1.size
  have k0 : (w.alloc (.cells t.arr 35)).cell? ⟨c, 0, none⟩ = some (.int .i64 S.lim) := by obtain ⟨pa, pcap, hb, ov, fb, lb, hp⟩ := h1.ex; exact at_cells hp.blk 0 rfl
  have kc0 : kw t.k := hat.kw
  have hdr := drop_any h1 ho hn hB1 kc0
  obtain ⟨lm, hlm⟩ : ∃ lm, S.lim = lm := ⟨_, rfl⟩
  rw [hlm] at k0
  have hl0 : ¬ ((lm : Int) = 0) := by omega
  have HK : Hid ((w.alloc (.cells t.arr 35)).rangeAt w.heap.size 0 (kc t.k).toList) := Tr.key_range hx
  have HC : Hid (Fr [] w (w.alloc (.cells t.arr 35)) ∧ (w.alloc (.cells t.arr 35)).heap[w.heap.size]? = some (.cells t.arr 35 (0, 0)) ∧ TrOk (w.alloc (.cells t.arr 35)) B t ∧ B ≤ (w.alloc (.cells t.arr 35)).heap.size ∧ Ok S n ∧ S.lim ≠ 0 ∧ (∀ x ∈ S.pk, W64 x) ∧ ATOk t.abs) := ⟨F1, hx, ht1, hB1, ho, h0, hpw, hat⟩
  clear h h1 ho hx ht ht1 hB1 hat hpw h0 F1 hlm
  go_enter Try.func14, Try.ntmps14
  go_upto_region 3 with fail
  generalize w.alloc (.cells t.arr 35) = V at *
  generalize w.heap.size = tb at *
  go_wp2_with (first
    | refine wpList_ld29 rfl (.tmp 15) rfl tb 0 rfl t.k HK.out ?_
    | (go_at_call 18; refine hdr.mono ?_; rintro e w1 ⟨rfl, ⟨rs1, hca⟩, hgm⟩; have HD : Hid (CA w1 B c n rs1 (dropB S t.k) ∧ Gm B pP true V w1) := ⟨hca, hgm⟩; clear hca hgm hdr k0 HK))
  obtain ⟨hF1, hx, ht1, hB1, ho, h0, hpw, hat⟩ := HC.out
  refine put_loop (W0 := w) (S1 := dropB S t.k) (t := t) (tb := tb) hn ⟨HD.out.1, ho.drop _, rfl, by rw [drop_lim]; exact h0, by rw [drop_pk]; exact hpw, drop_free ho t.k, (HD.out.2.block _ (Array.getElem?_eq_some_iff.1 hx).1 (.inr (.inl ⟨_, _, _, hx, rfl⟩))).trans hx, ht1.gm HD.out.2 pP_ro, (Gm.ofFr0 hF1).trans HD.out.2, Nat.le_trans hB1 HD.out.2.size⟩ ?_
  intro rs2 W2 hI hlt _ _ _ _ _ _ _ _ _ _ _ _ _ _ _ _ _ _ _ _ _ _ _ _ _
  apply_assumption
  refine wp_mono (put_tailF (t := t) hI.ca hI.ok hn hI.big hlt hI.keys hat hI.box hI.tr) ?_
  intro e a w' hh
  have HI : Hid (Gm B pP true w W2 ∧ S.lim ≠ 0) := ⟨hI.gm, h0⟩
  clear hI hlt hF1 hx ht1 hB1 ho hpw hat HC HD
  refine bodyPost_mono (fun e w' hq => ?_) hh
  obtain ⟨h1, h2, h3⟩ := hq
  rw [room_last, drop_last] at h1
  have e1 : putR S = ((S.last + 1 : Nat) : Int) := by unfold putR; rw [if_neg HI.out.2]; rfl
  have e2 : putB S t.abs = pushB (roomB (dropB S t.k)) t.abs := by unfold putB; rw [if_neg HI.out.2]; rfl
  obtain ⟨t', h4, h5⟩ := h2
  rw [room_last, drop_last] at h4
  exact ⟨by rw [e1]; exact h1, ⟨rs2, t', by rw [e2, e1]; exact h4, h5.low HI.out.1.size⟩, HI.out.1.trans h3⟩
end Go.Proofs.Ytnhjplfdfbbihaa
namespace Go.Proofs.Ytnhjplfdfbbihaa
open Go.RowKit Go.Shelf Go.Maps Go.ChangeShapes
set_option linter.unusedVariables false
set_option linter.unusedSimpArgs false
set_option maxRecDepth 100000 in
set_option maxHeartbeats 4000000 in
theorem get_fr {w : World} {B c n : Nat} {rs : List Rt} {S : Bk} (h : CA w B c n rs S) (hBw : B ≤ w.heap.size) {k : Ky} (hk : kw k) :
    Calls Try.prog 15 #[.pointer (some ⟨c, 0, none⟩), .agg (kc k)] w fun e w' => ∃ t' : Tr, e = .returned (.tuple #[.agg t'.arr, .int .i64 (((getB S k).map (·.1)).getD 0), .bool (getB S k).isSome]) ∧ t'.abs = ((getB S k).map (·.2)).getD tr0.abs ∧ TrOk w' B t' ∧ Fr [] w w' ∧ FrL 8 w.heap.size t' := by
  have F1 : Fr [] w ((w.alloc (.cells (kc k) 29)).alloc (.cells #[.int .i64 0, .int .i64 0, .int .i64 0, .int .i64 0, .int .i64 0, .int .i64 0, .int .i64 0, .int .i64 0, .int .i64 0, .int .i64 0, .int .i64 0, .int .i64 0, .slice none 0 0, .slice none 0 0, .slice none 0 0, .slice none 0 0, .slice none 0 0] 35)) := ((Fr.refl _ _).alloc _).alloc _
  have h1 := h.fr0 F1
  have hx := (((Fr.refl [] (w.alloc (.cells (kc k) 29))).alloc (.cells #[.int .i64 0, .int .i64 0, .int .i64 0, .int .i64 0, .int .i64 0, .int .i64 0, .int .i64 0, .int .i64 0, .int .i64 0, .int .i64 0, .int .i64 0, .int .i64 0, .slice none 0 0, .slice none 0 0, .slice none 0 0, .slice none 0 0, .slice none 0 0] 35)).block _ (by simp) (by simp)).trans (heap_alloc_new w (.cells (kc k) 29))
  have hy : ((w.alloc (.cells (kc k) 29)).alloc (.cells #[.int .i64 0, .int .i64 0, .int .i64 0, .int .i64 0, .int .i64 0, .int .i64 0, .int .i64 0, .int .i64 0, .int .i64 0, .int .i64 0, .int .i64 0, .int .i64 0, .slice none 0 0, .slice none 0 0, .slice none 0 0, .slice none 0 0, .slice none 0 0] 35)).heap[w.heap.size + 1]? = _ := blk2 w _ _
  have hget := fnd_get h.abs k
  go_enter Try.func15, Try.ntmps15
  go_upto_region 3 with fail
  generalize (w.alloc (.cells (kc k) 29)).alloc (.cells #[.int .i64 0, .int .i64 0, .int .i64 0, .int .i64 0, .int .i64 0, .int .i64 0, .int .i64 0, .int .i64 0, .int .i64 0, .int .i64 0, .int .i64 0, .int .i64 0, .slice none 0 0, .slice none 0 0, .slice none 0 0, .slice none 0 0, .slice none 0 0] 35) = V at *
  generalize hkb : w.heap.size = kb at *
  obtain ⟨pa, pcap, hb, ov, fb, lb, hp⟩ := h1.ex
  obtain ⟨r0, hr0⟩ : ∃ r0, r0 = (fnd rs k).getD (0, tr0) := ⟨_, rfl⟩
  obtain ⟨is, his⟩ : ∃ is, is = (fnd rs k).isSome := ⟨_, rfl⟩
  have L1 : Hid (∀ w', Fr [] V w' → w'.rangeAt kb 0 (kc k).toList) := fun w' f => range_block ((f.block _ (Array.getElem?_eq_some_iff.1 hx).1 (by simp)).trans hx)
  have L2 : Hid (∀ w', Fr [] V w' → w'.cell? ⟨c, 2, none⟩ = some (.map (some hb))) := fun w' f => f.cellNew hp.blk (by simp) rfl
  have L5 : Hid (∀ w', Fr [] V w' → (Instr.lookup 60 (.map (some hb)) (.agg (kc k)) true).run Try.prog w' = .ok (.tuple #[ev r0, .bool is]) w') := fun w' f => by rw [hr0, his]; exact (hp.held.fr f (by simp)).lookOk hk
  have HT : Hid (TrOk V B r0.2) := by
    show TrOk V B r0.2
    rw [hr0]
    cases hf : fnd rs k with
    | none => exact tr0_ok _ _
    | some r => exact hp.trs r (fnd_some hf).1
  have HE : Hid (((getB S k).map (·.1)).getD 0 = r0.1 ∧ (getB S k).isSome = is ∧ ((getB S k).map (·.2)).getD tr0.abs = r0.2.abs) := by
    show _ ∧ _ ∧ _
    rw [hget, hr0, his]
    cases hf : fnd rs k with
    | none => exact ⟨rfl, rfl, rfl⟩
    | some r => exact ⟨rfl, rfl, rfl⟩
  have HKB : Hid (kb = w.heap.size) := hkb.symm
  have HY : Hid (V.heap[kb + 1]? = some (.cells #[.int .i64 0, .int .i64 0, .int .i64 0, .int .i64 0, .int .i64 0, .int .i64 0, .int .i64 0, .int .i64 0, .int .i64 0, .int .i64 0, .int .i64 0, .int .i64 0, .slice none 0 0, .slice none 0 0, .slice none 0 0, .slice none 0 0, .slice none 0 0] 35 (0, 0))) := hy
  have HF : Hid (Fr [] w V ∧ B ≤ V.heap.size ∧ w.heap.size ≤ kb ∧ B ≤ kb) := ⟨F1, by have := F1.size; omega, by omega, hBw⟩
  clear h h1 hp hBw hr0 his hx hy hkb hk hget F1
  refine reg_in (fun w' => Fr [] V w') ?_
  have hS : Fr [] V V.drew := (Fr.refl _ _).drew
  have hSY := hS
  generalize V.drew = Y at *
  refine tk 0 (some 13) (.pointer (some ⟨c, 0, none⟩)) rfl rfl (Or.inl ⟨rfl, fun wq hSq => by first | rfl | go_simp⟩) (by decide +kernel) hS ?_
  simp only [Act.put, List.setIfInBounds_toArray, List.set_cons_zero, List.set_cons_succ]
  refine tk 1 (some 14) (.pointer (some ⟨c, 0, none⟩)) rfl rfl (Or.inl ⟨rfl, fun wq hSq => by first | rfl | go_simp⟩) (by decide +kernel) hS ?_
  simp only [Act.put, List.setIfInBounds_toArray, List.set_cons_zero, List.set_cons_succ]
  refine tk 2 (some 15) (.pointer (some ⟨c, 2, none⟩)) rfl rfl (Or.inl ⟨rfl, fun wq hSq => by first | rfl | go_simp⟩) (by decide +kernel) hS ?_
  simp only [Act.put, List.setIfInBounds_toArray, List.set_cons_zero, List.set_cons_succ]
  refine tk 3 (some 16) (.map (some hb)) rfl rfl (Or.inl ⟨rfl, fun wq hSq => by have q := L2.out wq hSq; go_simp⟩) (by decide +kernel) hS ?_
  simp only [Act.put, List.setIfInBounds_toArray, List.set_cons_zero, List.set_cons_succ]
  refine tk 4 (some 17) (.agg (kc k)) rfl rfl ?_ (by decide +kernel) hS ?_
  · exact yieldsIf_load_mid rfl 29 (.tmp 3) rfl kb 0 rfl (kc k).toList _ (fun wq hSq => L1.out wq hSq) Try.underlying29 rfl (by rw [info29]; simp [kc_size])
  simp only [Act.put, List.setIfInBounds_toArray, List.set_cons_zero, List.set_cons_succ]
  refine tk 5 (some 18) (.tuple #[ev r0, .bool is]) rfl rfl (Or.inl ⟨rfl, fun wq hSq => by have q := L5.out wq hSq; go_simp⟩) (by decide +kernel) hS ?_
  simp only [Act.put, List.setIfInBounds_toArray, List.set_cons_zero, List.set_cons_succ]
  refine tk 6 (some 12) (.tuple #[ev r0, .bool is]) rfl rfl (Or.inl ⟨rfl, fun wq hSq => by first | rfl | go_simp⟩) (by decide +kernel) hS ?_
  simp only [Act.put, List.setIfInBounds_toArray, List.set_cons_zero, List.set_cons_succ]
  refine tk 7 (some 19) (ev r0) rfl rfl (Or.inl ⟨rfl, fun wq hSq => by go_simp⟩) (by decide +kernel) hS ?_
  simp only [Act.put, List.setIfInBounds_toArray, List.set_cons_zero, List.set_cons_succ]
  refine tk 8 (some 20) (.bool is) rfl rfl (Or.inl ⟨rfl, fun wq hSq => by go_simp⟩) (by decide +kernel) hS ?_
  simp only [Act.put, List.setIfInBounds_toArray, List.set_cons_zero, List.set_cons_succ]
  refine wpAnyH_ready (rs := [9]) (by decide +kernel) (by simp) ?_
  refine AllReadyH.cons rfl (fun K hK => ?_) AllReadyH.nil
  go_simp
  have hS := hS.alloc (.cells #[.int .i64 0, .int .i64 0, .int .i64 0, .int .i64 0, .int .i64 0, .int .i64 0, .int .i64 0, .int .i64 0, .int .i64 0, .int .i64 0, .int .i64 0, .int .i64 0, .int .i64 0, .slice none 0 0, .slice none 0 0, .slice none 0 0, .slice none 0 0, .slice none 0 0] 88)
  have bE := heap_alloc_new Y (.cells #[.int .i64 0, .int .i64 0, .int .i64 0, .int .i64 0, .int .i64 0, .int .i64 0, .int .i64 0, .int .i64 0, .int .i64 0, .int .i64 0, .int .i64 0, .int .i64 0, .int .i64 0, .slice none 0 0, .slice none 0 0, .slice none 0 0, .slice none 0 0, .slice none 0 0] 88)
  have hE : V.heap.size ≤ Y.heap.size := hSY.size
  generalize Y.alloc (.cells #[.int .i64 0, .int .i64 0, .int .i64 0, .int .i64 0, .int .i64 0, .int .i64 0, .int .i64 0, .int .i64 0, .int .i64 0, .int .i64 0, .int .i64 0, .int .i64 0, .int .i64 0, .slice none 0 0, .slice none 0 0, .slice none 0 0, .slice none 0 0, .slice none 0 0] 88) = Y1 at *
  generalize Y.heap.size = ne at *
  refine hK.out _ _ hS (fun _ => ?_)
  clear hK K
  try simp only [List.getElem_toArray, List.getElem_cons_succ, List.getElem_cons_zero, Act.put, List.setIfInBounds_toArray, List.set_cons_zero, List.set_cons_succ]
  refine wpAnyH_ready (rs := [10]) (by decide +kernel) (by simp) ?_
  refine AllReadyH.cons rfl (fun K hK => ?_) AllReadyH.nil
  refine wp_store_row 88 (.tmp 7) (.tmp 19) rfl ne (evl r0).toArray rfl rfl 88 _ bE (by rw [info88, evl_size]) (by rw [evl_size]; rfl) (evl_one r0) ?_
  have bE := setRow_heap Y1 ne _ (evl r0).toArray _ _ bE
  have hS := hS.setRow (g := ne) (.inr hE) (evl r0).toArray
  generalize Y1.setRow ne (evl r0).toArray = Z at *
  refine hK.out _ _ hS (fun _ => ?_)
  clear hK K
  try simp only [List.getElem_toArray, List.getElem_cons_succ, List.getElem_cons_zero, Act.put, List.setIfInBounds_toArray, List.set_cons_zero, List.set_cons_succ]
  refine tk 11 (some 8) (.bool is) rfl rfl (Or.inl ⟨rfl, fun wq hSq => by first | rfl | go_simp⟩) (by decide +kernel) hS ?_
  simp only [Act.put, List.setIfInBounds_toArray, List.set_cons_zero, List.set_cons_succ]
  refine wpAnyH_done (by decide +kernel) ?_ _
  refine plain_end ?_
  have hyZ := (hS.block _ (Array.getElem?_eq_some_iff.1 HY.out).1 (by simp)).trans HY.out
  have hek : ne ≠ kb + 1 := by have := (Array.getElem?_eq_some_iff.1 HY.out).1; omega
  have M1 : Hid (∀ w', Fr [kb + 1] Z w' → w'.rangeAt ne 1 r0.2.cl) := fun w' f => tr_range88 ((f.block _ (Array.getElem?_eq_some_iff.1 bE).1 (by simpa using hek)).trans bE)
  have M2 : Hid (∀ w', Fr [kb + 1] Z w' → w'.cell? ⟨ne, 0, none⟩ = some (.int .i64 r0.1)) := fun w' f => f.cellNew bE (by simpa using hek) rfl
  have HYZ : Hid (Z.heap[kb + 1]? = some (.cells #[.int .i64 0, .int .i64 0, .int .i64 0, .int .i64 0, .int .i64 0, .int .i64 0, .int .i64 0, .int .i64 0, .int .i64 0, .int .i64 0, .int .i64 0, .int .i64 0, .slice none 0 0, .slice none 0 0, .slice none 0 0, .slice none 0 0, .slice none 0 0] 35 (0, 0))) := hyZ
  have HT1 : Hid (TrOk Z B r0.2) := HT.out.fr0 hS
  have HB1 : Hid (B ≤ Z.heap.size) := Nat.le_trans HF.out.2.1 hS.size
  have HZ : Hid (Fr [] w Z) := HF.out.1.trans hS
  clear hS hSY hE bE hyZ L1 L2 L5 HT HY
  go_upto_region 4 with fail
  refine reg_in (fun w' => Fr [kb + 1] Z w') ?_
  have hS0 : Fr [] Z Z.drew := (Fr.refl _ _).drew
  have hS : Fr [kb + 1] Z Z.drew := hS0.sub (by simp)
  generalize Z.drew = U at *
  refine tk 0 (some 21) (.pointer (some ⟨ne, 1, none⟩)) rfl rfl (Or.inl ⟨rfl, fun wq hSq => by first | rfl | go_simp⟩) (by decide +kernel) hS ?_
  simp only [Act.put, List.setIfInBounds_toArray, List.set_cons_zero, List.set_cons_succ]
  refine tk 1 (some 22) (.agg r0.2.arr) rfl rfl ?_ (by decide +kernel) hS ?_
  · exact yieldsIf_load_mid rfl 35 (.tmp 21) rfl ne 1 rfl r0.2.cl _ (fun wq hSq => M1.out wq hSq) Try.underlying35 rfl (by rw [Tr.cl_len]; exact info35)
  simp only [Act.put, List.setIfInBounds_toArray, List.set_cons_zero, List.set_cons_succ]
  refine tk 3 (some 24) (.pointer (some ⟨ne, 0, none⟩)) rfl rfl (Or.inl ⟨rfl, fun wq hSq => by first | rfl | go_simp⟩) (by decide +kernel) hS ?_
  simp only [Act.put, List.setIfInBounds_toArray, List.set_cons_zero, List.set_cons_succ]
  refine tk 4 (some 25) (.int .i64 r0.1) rfl rfl (Or.inl ⟨rfl, fun wq hSq => by have q := M2.out wq hSq; go_simp⟩) (by decide +kernel) hS ?_
  simp only [Act.put, List.setIfInBounds_toArray, List.set_cons_zero, List.set_cons_succ]
  refine tk 5 (some 26) (.bool is) rfl rfl (Or.inl ⟨rfl, fun wq hSq => by first | rfl | go_simp⟩) (by decide +kernel) hS ?_
  simp only [Act.put, List.setIfInBounds_toArray, List.set_cons_zero, List.set_cons_succ]
  refine wpAnyH_ready (rs := [2]) (by decide +kernel) (by simp) ?_
  refine AllReadyH.cons rfl (fun K hK => ?_) AllReadyH.nil
  go_simp
  refine (copied_fr (HT1.out.fr0 hS0) (Nat.le_trans HB1.out hS0.size)).mono ?_
  rintro e Y2 ⟨t', rfl, ha', hT', f1, hfr⟩
  have HFR : Hid (FrL 8 kb t') := hfr.low (by have h1 := (Array.getElem?_eq_some_iff.1 HYZ.out).1; have h2 := hS0.size; omega)
  clear hfr
  have hS0 := hS0.trans f1
  have hS : Fr [kb + 1] Z Y2 := hS0.sub (by simp)
  have HT2 : Hid (t'.abs = r0.2.abs ∧ TrOk Y2 B t') := ⟨ha', hT'⟩
  have hyY := (hS0.block _ (Array.getElem?_eq_some_iff.1 HYZ.out).1 (by simp)).trans HYZ.out
  clear f1 ha' hT'
  refine hK.out _ _ hS (fun _ => ?_)
  clear hK K
  try simp only [List.getElem_toArray, List.getElem_cons_succ, List.getElem_cons_zero, Act.put, List.setIfInBounds_toArray, List.set_cons_zero, List.set_cons_succ]
  refine wpAnyH_ready (rs := [6]) (by decide +kernel) (by simp) ?_
  refine AllReadyH.cons rfl (fun K hK => ?_) AllReadyH.nil
  refine wp_store_row 35 (.tmp 4) (.tmp 23) rfl (kb + 1) t'.arr rfl rfl 35 _ hyY (by rw [t'.arr_size]; exact info35) (by rw [t'.arr_size]; rfl) t'.arr_one ?_
  have hyQ := setRow_heap Y2 (kb + 1) _ t'.arr _ _ hyY
  have hS3 : Fr [kb + 1] Z (Y2.setRow (kb + 1) t'.arr) := hS.setRow (.inl (by simp)) _
  have HQ : Hid (TrOk (Y2.setRow (kb + 1) t'.arr) B t') := HT2.out.2.fr (S := [kb + 1]) ((Fr.refl _ _).setRow (.inl (by simp)) _) (away_cells hyY rfl (by have := HF.out.2.2.2; omega))
  generalize Y2.setRow (kb + 1) t'.arr = Q at *
  have hS := hS3
  refine hK.out _ _ hS (fun _ => ?_)
  clear hK K
  try simp only [List.getElem_toArray, List.getElem_cons_succ, List.getElem_cons_zero, Act.put, List.setIfInBounds_toArray, List.set_cons_zero, List.set_cons_succ]
  refine tk 7 (some 5) (.int .i64 r0.1) rfl rfl (Or.inl ⟨rfl, fun wq hSq => by first | rfl | go_simp⟩) (by decide +kernel) hS ?_
  simp only [Act.put, List.setIfInBounds_toArray, List.set_cons_zero, List.set_cons_succ]
  refine tk 8 (some 6) (.bool is) rfl rfl (Or.inl ⟨rfl, fun wq hSq => by first | rfl | go_simp⟩) (by decide +kernel) hS ?_
  simp only [Act.put, List.setIfInBounds_toArray, List.set_cons_zero, List.set_cons_succ]
  refine wpAnyH_done (by decide +kernel) ?_ _
  refine plain_end ?_
  have HFF : Hid (Fr [] w Q) := ((HZ.out.sub (T := [kb + 1]) (by simp)).trans hS).sub (fun j hj => by
    have : j = kb + 1 := by simpa using hj
    have := HF.out.2.2.1
    right; omega)
  have HQQ : Hid (Q.heap[kb + 1]? = some (.cells t'.arr 35 (0, 0))) := hyQ
  clear hS hS0 hS3 hyY hyQ M1 M2 HYZ HT1 HB1 HZ hek
  go_wp2
  refine bodyPost_ret (results35c res15 t'.arr_size rfl HQQ.out) rfl ⟨t', ?_, ?_, HQ.out, HFF.out, ?_⟩
  · rw [HE.out.1, HE.out.2.1]; rfl
  · rw [HE.out.2.2]; exact HT2.out.1
  · first | exact HFR.out | (rw [← HKB.out]; exact HFR.out)
end Go.Proofs.Ytnhjplfdfbbihaa
namespace Go.Proofs.Ytnhjplfdfbbihaa
open Go.RowKit Go.Shelf Go.Maps Go.ChangeShapes
set_option linter.unusedVariables false
set_option linter.unusedSimpArgs false
theorem SL.apart {w w' : World} {B : Nat} {e : TypeId} {a : Option Addr} {n c m y : Nat} {xs : List Value} (h : SL w B e a n c m y xs) {g L : Nat} (f : Fr [g] w w') (ha : AFr L a) (hg : g < L) : SL w' B e a n c m y xs :=
  ⟨h.ro, h.len, h.nn, h.le, h.fit, fun j u hu => by
    obtain ⟨b, o, e1, hc, hb⟩ := h.cell j u hu
    have q : b ∉ [g] := by
      have := ha b o none e1
      simp
      omega
    exact ⟨b, o, e1, f.cell1 hc q, hb.fr q f⟩⟩
theorem TrOk.apart {w w' : World} {B : Nat} {t : Tr} (h : TrOk w B t) {g L : Nat} (f : Fr [g] w w') (ha : FrL 8 L t) (hg : g < L) : TrOk w' B t :=
  ⟨h.ins.apart f (ha.f1 (by decide)) hg, h.ops.apart f (ha.f2 (by decide)) hg, fun e he => ⟨(h.opl e he).hp, (h.opl e he).hq, (h.opl e he).sl.apart f (ha.f3 (by decide) e he) hg⟩, h.links.apart f (ha.f4 (by decide)) hg, fun e he => ⟨(h.linkl e he).hp, (h.linkl e he).hq, (h.linkl e he).sl.apart f (ha.f5 (by decide) e he) hg⟩, h.virts.apart f (ha.f6 (by decide)) hg, fun e he => ⟨(h.virtl e he).hp, (h.virtl e he).hq, (h.virtl e he).sl.apart f (ha.f7 (by decide) e he) hg⟩, h.back.apart f (ha.f8 (by decide)) hg⟩
theorem CA.apart {w w' : World} {B c n : Nat} {rs : List Rt} {S : Bk} (h : CA w B c n rs S) (hpk : S.pk = []) {g L : Nat} {cur : Array Value} {e0 : TypeId} {z : Nat × Nat} (hb : w.heap[g]? = some (.cells cur e0 z)) (h1 : e0 ≠ 64) (h2 : e0 ≠ 83) (f : Fr [g] w w') (ha : ∀ r ∈ rs, FrL 8 L r.2) (hg : g < L) : CA w' B c n rs S := by
  obtain ⟨pa, pcap, hb1, ov, fb, lb, hp⟩ := h.ex
  have hc : c ≠ g := by rintro rfl; rw [hp.blk] at hb; cases hb; exact h1 rfl
  have hh : hb1 ≠ g := by obtain ⟨es, cl, hk⟩ := hp.held.blk; rintro rfl; rw [hb] at hk; cases hk
  have hf : fb ≠ g := by obtain ⟨es, cl, hk⟩ := hp.fails.blk; rintro rfl; rw [hb] at hk; cases hk
  have hl : lb ≠ g := by obtain ⟨es, cl, hk⟩ := hp.links.blk; rintro rfl; rw [hb] at hk; cases hk
  have hpick : SL w' B 3 pa S.pk.length pcap 1 8 (S.pk.map (Value.int .i64)) := ⟨hp.pick.ro, hp.pick.len, hp.pick.nn, hp.pick.le, hp.pick.fit, fun j u hu => by rw [hpk] at hu; simp at hu⟩
  exact ⟨⟨pa, pcap, hb1, ov, fb, lb, ⟨(f.block c (Array.getElem?_eq_some_iff.1 hp.blk).1 (by simpa using hc)).trans hp.blk, hpick, hp.held.fr f (by simpa using hh), own_fr hp.ord f (fun k hk hm => own_ne hp.ord hb h2 (by simp at hm; rw [← hm]; exact hk)), hp.fails.fr f (by simpa using hf), hp.links.fr f (by simpa using hl), fun r hr => (hp.trs r hr).apart f (ha r hr) hg, hp.ne1, hp.ne2, hp.ne3, hp.cB, hp.hB, hp.fB, hp.lB⟩⟩, h.abs⟩
/-- The cells of a list that lies past a bound are there to be written. -/
theorem SL.place {w : World} {B : Nat} {e : TypeId} {a : Option Addr} {n c m y : Nat} {xs : List Value} (h : SL w B e a n c m y xs) (hm : 0 < m) (hn : 0 < n) {L : Nat} (ha : AFr L a) (hL : B ≤ L) : ∃ g o cur, a = some ⟨g, o, none⟩ ∧ L ≤ g ∧ w.heap[g]? = some (.cells cur e (0, 0)) ∧ ∀ j, j < m → ∃ u, w.cell? ⟨g, o + j, none⟩ = some u := by
  have hl : ∀ j, j < m → j < xs.length := fun j hj => by
    rw [h.len]
    exact Nat.lt_of_lt_of_le hj (Nat.le_mul_of_pos_left m hn)
  obtain ⟨g, o, e1, hc, hb⟩ := h.cell 0 _ (List.getElem?_eq_getElem (hl 0 hm))
  have hg := ha g o none e1
  rcases hb with hb | ⟨cur, hb⟩
  · omega
  · refine ⟨g, o, cur, e1, hg, hb, fun j hj => ?_⟩
    obtain ⟨g2, o2, e2, hc2, _⟩ := h.cell j _ (List.getElem?_eq_getElem (hl j hj))
    rw [e1] at e2
    cases e2
    exact ⟨_, hc2⟩
end Go.Proofs.Ytnhjplfdfbbihaa
