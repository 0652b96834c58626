/-
  A trace comes in: what is held, the order, how many; condition: the cache lies as told.
-/
import Derived.Test.YtnhjplfdfbbihaaCbM
namespace Go.Proofs.Ytnhjplfdfbbihaa
open Go.RowKit Go.Shelf Go.Maps Go.ChangeShapes
set_option linter.unusedVariables false
set_option linter.unusedSimpArgs false
theorem wp_slice1 {o : Oper} {a : Act} {w : World} {K : Act → World → Prop} {Q : Exit → Act → World → Prop} (t e : TypeId) (m y : Nat) (x : Operand) (A : Array Value) (z : Value) (ho : o.op = .buildSlice t 1 #[(0, x)]) (hx : a.eval x = .agg A)
    (hu : Try.prog.underlying t = some (.slice e)) (hi : (Try.prog.info? e).map (fun i => (i.zero, i.size, i.bytes)) = some (some z, m, y)) (hm : 0 < m) (hs : m ≤ 1000) (hA : A.size = m)
    (h : K (a.put o.dst (.slice (some ⟨w.heap.size, 0, none⟩) 1 1)) (w.alloc (.cells A e))) : o.wp Try.prog a w K Q := by
  unfold Oper.wp execOp
  have e1 : (#[(0, x)].map fun (i, x) => (i, a.eval x)) = #[(0, .agg A)] := by simp [hx]
  simp only [ho, e1, Sem.run_bind, run_slice1 w t e m y A z hu hi hm hs hA, Result.andThen_ok]
  exact h
theorem ne_cells {w : World} {k : Nat} {A D : Array Value} {t t' : TypeId} {z z' : Nat × Nat} (h : w.heap[k]? = some (.cells A t z)) (h' : w.heap[k]? = some (.cells D t' z')) : t = t' := by
  rw [h] at h'
  injection h' with h'
  injection h' with _ h2 _
set_option maxRecDepth 100000 in
theorem build88 (i : Int) (t : Tr) (w : World) : (Instr.build 88 #[(0, .int .i64 i), (1, .agg t.arr)]).run Try.prog w = .ok (ev (i, t)) w := by
  obtain ⟨⟨a, b, c, d, e, f, g, h, x, j⟩, fn, pc, ia, ic, ins, oa, oc, ops, la, lc, links, va, vc, virts, ba, bc, back⟩ := t
  exact run_build w 88 _ _ (by kernel_rfl)
theorem yields_build88 {ops : Array Oper} {S : World → Prop} {o : Oper} {a : Act} (hgd : o.guard = none) (x y : Operand) (ho : o.op = .build 88 #[(0, x), (1, y)]) (i : Int) (t : Tr) (hx : a.eval x = .int .i64 i) (hy : a.eval y = .agg t.arr) : YieldsIf Try.prog ops S o (ev (i, t)) a := by
  refine Or.inl ⟨by simp [Region.wanted, hgd], fun w _ => ?_⟩
  have e1 : (#[(0, x), (1, y)].map fun (i, x) => (i, a.eval x)) = #[(0, .int .i64 i), (1, .agg t.arr)] := by simp [hx, hy]
  unfold execOp
  simp only [ho, e1, Sem.run_bind, build88, Result.andThen_ok, Sem.run_pure]
theorem yields_build83 {ops : Array Oper} {S : World → Prop} {o : Oper} {a : Act} (hgd : o.guard = none) (x y : Operand) (ho : o.op = .build 83 #[(0, x), (1, y)]) (i : Int) (k : Ky) (hx : a.eval x = .int .i64 i) (hy : a.eval y = .agg (kc k)) : YieldsIf Try.prog ops S o (.agg (mcp (i, k)).toArray) a := by
  refine Or.inl ⟨by simp [Region.wanted, hgd], fun w _ => ?_⟩
  have e1 : (#[(0, x), (1, y)].map fun (i, x) => (i, a.eval x)) = #[(0, .int .i64 i), (1, .agg (kc k))] := by simp [hx, hy]
  unfold execOp
  simp only [ho, e1, Sem.run_bind, build83, Result.andThen_ok, Sem.run_pure]
theorem wp_update {o : Oper} {a : Act} {w w' : World} {K : Act → World → Prop} {Q : Exit → Act → World → Prop} (t : TypeId) (m x v : Operand) (hop : o.op = Op.mapUpdate t m x v) {mv key val : Value} (hm : a.eval m = mv) (hx : a.eval x = key) (hv : a.eval v = val) (hrun : (Instr.mapUpdate t mv key val).run Try.prog w = .ok () w') (h : K (a.put o.dst undef) w') : o.wp Try.prog a w K Q := by
  unfold Oper.wp
  simp [execOp, hop, hm, hx, hv, hrun, Result.andThen]
  exact h
theorem max_cast (a b : Nat) : max (a : Int) (b : Int) = ((max a b : Nat) : Int) := by omega
theorem ci83 : (Try.prog.info? 83).map (fun i => (i.zero, i.size, i.bytes)) = some (some (.agg (mcp (0, k00)).toArray), 11, 88) := by kernel_rfl
theorem cu61 : Try.prog.underlying 61 = some (.slice 83) := by kernel_rfl
theorem flatM_app (L M : List Mb) : flatM (L ++ M) = flatM L ++ flatM M := by unfold flatM; rw [List.flatMap_append]
theorem Tr.range {w : World} {T : Nat} {t : Tr} (h : w.heap[T]? = some (.cells t.arr 35 (0, 0))) : w.rangeAt T 0 t.cl := by have := range_block h; simpa [Tr.arr] using this
set_option maxRecDepth 100000 in
set_option maxHeartbeats 8000000 in
theorem put_tail {W : World} {B c n tb : Nat} {rs : List Rt} {S : Bk} {t : Tr} (h : CA W B c n rs S) (ho : Ok S n) (hn : n ≤ 100000000000000) (hBW : B ≤ W.heap.size) (hlt : S.rows.length < S.lim) (hk : ∀ r ∈ S.rows, r.2.k ≠ t.abs.k) (hat : ATOk t.abs) (hx : W.heap[tb]? = some (.cells t.arr 35 (0, 0))) (ht : TrOk W B t) {u1 u2 u4 u5 u6 u7 u8 u9 u10 u11 u12 u13 u14 u15 u16 u17 u18 u19 u20 u21 u22 u23 u24 u25 u26 u27 u28 u29 u30 u31 u32 u33 u34 u35 u36 u37 u38 u39 u40 u41 u42 u43 u44 u45 u46 u47 u48 u49 u50 u51 u52 u53 u54 u55 u56 u57 u58 u59 u60 u61 u62 u63 u64 u65 u66 u67 u68 u69 u70 u71 u72 u73 u74 u75 u76 u77 u78 u79 u80 u81 u82 u83 u84 u85 u86 u87 u88 u89 u90 u91 u92 u93 u94 u95 u96 u97 u98 u99 u100 : Value} :
    (sub Try.f14 [1, 1, 1, 1]).wp Try.prog (bodyPost Try.prog Try.f14 fun e w' => e = .returned (.int .i64 ((S.last + 1 : Nat) : Int)) ∧ (∃ rs', CA w' B c (n + 1) rs' (pushB S t.abs)) ∧ Gm B pP true W w') { tmps := #[.pointer (some ⟨c, 0, none⟩), u1, u2, .pointer (some ⟨tb, 0, none⟩), u4, u5, u6, u7, u8, u9, u10, u11, u12, u13, u14, u15, u16, u17, u18, u19, u20, u21, u22, u23, u24, u25, u26, u27, u28, u29, u30, u31, u32, u33, u34, u35, u36, u37, u38, u39, u40, u41, u42, u43, u44, u45, u46, u47, u48, u49, u50, u51, u52, u53, u54, u55, u56, u57, u58, u59, u60, u61, u62, u63, u64, u65, u66, u67, u68, u69, u70, u71, u72, u73, u74, u75, u76, u77, u78, u79, u80, u81, u82, u83, u84, u85, u86, u87, u88, u89, u90, u91, u92, u93, u94, u95, u96, u97, u98, u99, u100], defers := [] } W := by
  obtain ⟨pa, pcap, hb, ov, fb, lb, hp⟩ := h.ex
  have habs := h.abs
  have hop : Ok (pushB S t.abs) (n + 1) := ho.push hat hlt hk
  have hlast : S.last ≤ n := ho.last
  have hlen := rs_len habs ho
  obtain ⟨z, hz⟩ : ∃ z : Int, z = S.last := ⟨_, rfl⟩
  have k6 : W.cell? ⟨c, 6, none⟩ = some (.int .i64 z) := by rw [hz]; exact at_cells hp.blk 6 rfl
  have z6 : W.frozen? ⟨c, 6, none⟩ = false := frz hp.blk
  have f1 : Fr [c] W (W.setCell ⟨c, 6, none⟩ (.int .i64 ((S.last + 1 : Nat) : Int))) := (Fr.refl _ _).setCell (.inl (by simp)) _
  have hb1 := set_blk (i := 6) (v := .int .i64 ((S.last + 1 : Nat) : Int)) hp.blk
  have hp1 := hp.setBlk (last' := S.last + 1) (top' := S.top) f1 hb1 hp.pick rfl
  have hg1 := hp.gmBlk f1
  have htc : tb ≠ c := by rintro rfl; exact absurd (ne_cells hp.blk hx) (by decide)
  have hx1 := (f1.block _ (Array.getElem?_eq_some_iff.1 hx).1 (by simpa using htc)).trans hx
  have ht1 := ht.fr f1 (away_cells hp.blk rfl hp.cB)
  have HW : Hid (rs.map absR = S.rows ∧ Ok S n ∧ Ok (pushB S t.abs) (n + 1) ∧ n ≤ 100000000000000 ∧ (∀ r ∈ S.rows, r.2.k ≠ t.abs.k) ∧ ATOk t.abs ∧ rs.length ≤ 1000) := ⟨habs, ho, hop, hn, hk, hat, hlen⟩
  have HB : Hid (B ≤ (W.setCell ⟨c, 6, none⟩ (.int .i64 ((S.last + 1 : Nat) : Int))).heap.size) := Nat.le_trans hBW f1.size
  have HG1 : Hid (Gm B pP true W (W.setCell ⟨c, 6, none⟩ (.int .i64 ((S.last + 1 : Nat) : Int)))) := hg1
  have hz0 : 0 ≤ z := by omega
  have hz1 : z + 1 ≤ 1000000000000000 := by omega
  have HZ : Hid (z = S.last) := hz
  have HP1 : Hid (CP (W.setCell ⟨c, 6, none⟩ (.int .i64 ((S.last + 1 : Nat) : Int))) B c pa pcap hb ov fb lb S.lim S.pk (S.last + 1) S.top n rs (rs.map mb) (failsF S.notes) (linksF S.notes)) := hp1
  have HX1 : Hid ((W.setCell ⟨c, 6, none⟩ (.int .i64 ((S.last + 1 : Nat) : Int))).heap[tb]? = some (.cells t.arr 35 (0, 0))) := hx1
  have HT1 : Hid (TrOk (W.setCell ⟨c, 6, none⟩ (.int .i64 ((S.last + 1 : Nat) : Int))) B t) := ht1
  clear h hp habs ho hop hn hk hat hlen hlast hz f1 hb1 hp1 hg1 hx hx1 ht ht1 htc hBW hlt
  dsimp only [sub, nav, kid, Try.f14, Option.getD, if_true, if_false]
  go_upto_region 7 with fail
  rw [show (z + 1) = ((S.last + 1 : Nat) : Int) by rw [HZ.out]; rfl]
  clear k6 z6 hz0 hz1
  generalize W.setCell ⟨c, 6, none⟩ (.int .i64 ((S.last + 1 : Nat) : Int)) = T1 at *
  obtain ⟨l1, hl1⟩ : ∃ l1, l1 = S.last + 1 := ⟨_, rfl⟩
  rw [← hl1] at HP1 ⊢
  have HL1 : Hid (l1 = S.last + 1) := hl1
  clear hl1
  -- what is held
  have hcb : c ≠ hb := by obtain ⟨es, cl, hk⟩ := HP1.out.held.blk; rintro rfl; rw [HP1.out.blk] at hk; cases hk
  have htb : tb ≠ hb := by obtain ⟨es, cl, hk⟩ := HP1.out.held.blk; rintro rfl; rw [HX1.out] at hk; cases hk
  have L3 : Hid (∀ w', Fr [hb] T1 w' → w'.cell? ⟨c, 2, none⟩ = some (.map (some hb))) := fun w' f => f.cellNew HP1.out.blk (by simpa using hcb) rfl
  have L9 : Hid (∀ w', Fr [hb] T1 w' → w'.cell? ⟨c, 6, none⟩ = some (.int .i64 (l1 : Int))) := fun w' f => f.cellNew HP1.out.blk (by simpa using hcb) rfl
  have L5 : Hid (∀ w', Fr [hb] T1 w' → w'.rangeAt tb 0 (kc t.k).toList) := fun w' f => Tr.key_range ((f.block _ (Array.getElem?_eq_some_iff.1 HX1.out).1 (by simpa using htb)).trans HX1.out)
  have L10 : Hid (∀ w', Fr [hb] T1 w' → w'.rangeAt tb 0 t.cl) := fun w' f => Tr.range ((f.block _ (Array.getElem?_eq_some_iff.1 HX1.out).1 (by simpa using htb)).trans HX1.out)
  refine reg_in (fun w' => Fr [hb] T1 w') ?_
  have hS0 : Fr [] T1 T1.drew := (Fr.refl _ _).drew
  have hS : Fr [hb] T1 T1.drew := (Fr.refl _ _).drew
  clear hcb htb
  generalize T1.drew = Y at *
  refine tk 0 (some 50) (.pointer (some ⟨c, 0, none⟩)) rfl rfl (Or.inl ⟨rfl, fun wq hSq => by first | rfl | go_simp⟩) (by decide +kernel) hS ?_
  simp only [Act.put, List.setIfInBounds_toArray, List.set_cons_zero, List.set_cons_succ]
  refine tk 1 (some 51) (.pointer (some ⟨c, 0, none⟩)) rfl rfl (Or.inl ⟨rfl, fun wq hSq => by first | rfl | go_simp⟩) (by decide +kernel) hS ?_
  simp only [Act.put, List.setIfInBounds_toArray, List.set_cons_zero, List.set_cons_succ]
  refine tk 2 (some 52) (.pointer (some ⟨c, 2, none⟩)) rfl rfl (Or.inl ⟨rfl, fun wq hSq => by first | rfl | go_simp⟩) (by decide +kernel) hS ?_
  simp only [Act.put, List.setIfInBounds_toArray, List.set_cons_zero, List.set_cons_succ]
  refine tk 3 (some 53) (.map (some hb)) rfl rfl (Or.inl ⟨rfl, fun wq hSq => by have q := L3.out wq hSq; go_simp⟩) (by decide +kernel) hS ?_
  simp only [Act.put, List.setIfInBounds_toArray, List.set_cons_zero, List.set_cons_succ]
  refine tk 4 (some 54) (.pointer (some ⟨tb, 0, none⟩)) rfl rfl (Or.inl ⟨rfl, fun wq hSq => by first | rfl | go_simp⟩) (by decide +kernel) hS ?_
  simp only [Act.put, List.setIfInBounds_toArray, List.set_cons_zero, List.set_cons_succ]
  refine tk 5 (some 55) (.agg (kc t.k)) rfl rfl ?_ (by decide +kernel) hS ?_
  · exact yieldsIf_load_mid rfl 29 (.tmp 54) rfl tb 0 rfl (kc t.k).toList _ (fun wq hSq => L5.out wq hSq) Try.underlying29 rfl (by rw [info29]; simp [kc_size])
  simp only [Act.put, List.setIfInBounds_toArray, List.set_cons_zero, List.set_cons_succ]
  refine tk 6 (some 56) (.pointer (some ⟨c, 0, none⟩)) rfl rfl (Or.inl ⟨rfl, fun wq hSq => by first | rfl | go_simp⟩) (by decide +kernel) hS ?_
  simp only [Act.put, List.setIfInBounds_toArray, List.set_cons_zero, List.set_cons_succ]
  refine tk 7 (some 57) (.pointer (some ⟨c, 0, none⟩)) rfl rfl (Or.inl ⟨rfl, fun wq hSq => by first | rfl | go_simp⟩) (by decide +kernel) hS ?_
  simp only [Act.put, List.setIfInBounds_toArray, List.set_cons_zero, List.set_cons_succ]
  refine tk 8 (some 58) (.pointer (some ⟨c, 6, none⟩)) rfl rfl (Or.inl ⟨rfl, fun wq hSq => by first | rfl | go_simp⟩) (by decide +kernel) hS ?_
  simp only [Act.put, List.setIfInBounds_toArray, List.set_cons_zero, List.set_cons_succ]
  refine tk 9 (some 59) (.int .i64 (l1 : Int)) rfl rfl (Or.inl ⟨rfl, fun wq hSq => by have q := L9.out wq hSq; go_simp⟩) (by decide +kernel) hS ?_
  simp only [Act.put, List.setIfInBounds_toArray, List.set_cons_zero, List.set_cons_succ]
  refine tk 10 (some 60) (.agg t.arr) rfl rfl ?_ (by decide +kernel) hS ?_
  · exact yieldsIf_load_mid rfl 35 (.tmp 3) rfl tb 0 rfl t.cl _ (fun wq hSq => L10.out wq hSq) Try.underlying35 rfl (by rw [Tr.cl_len]; exact info35)
  simp only [Act.put, List.setIfInBounds_toArray, List.set_cons_zero, List.set_cons_succ]
  refine wpAnyH_ready (rs := [11]) (by decide +kernel) (by simp) ?_
  refine AllReadyH.cons rfl (fun K hK => ?_) AllReadyH.nil
  go_simp
  refine (copied_any (HT1.out.fr0 hS0) (Nat.le_trans HB.out hS0.size)).mono ?_
  rintro e Y2 ⟨t', rfl, ha', hT', f1⟩
  have hS0 := hS0.trans f1
  have hS : Fr [hb] T1 Y2 := hS0.sub (by simp)
  have hkk : t'.k = t.k := congrArg AT.k ha'
  have HT2 : Hid (t'.abs = t.abs ∧ TrOk Y2 B t' ∧ t'.k = t.k) := ⟨ha', hT', hkk⟩
  clear f1 ha' hT' hkk
  refine hK.out _ _ hS (fun _ => ?_)
  clear hK K
  try simp only [List.getElem_toArray, List.getElem_cons_succ, List.getElem_cons_zero, Act.put, List.setIfInBounds_toArray, List.set_cons_zero, List.set_cons_succ]
  refine tk 12 (some 62) (ev ((l1 : Int), t')) rfl rfl ?_ (by decide +kernel) hS ?_
  · exact yields_build88 rfl (.tmp 59) (.tmp 61) rfl (l1 : Int) t' rfl rfl
  simp only [Act.put, List.setIfInBounds_toArray, List.set_cons_zero, List.set_cons_succ]
  refine wpAnyH_ready (rs := [13]) (by decide +kernel) (by simp) ?_
  refine AllReadyH.cons rfl (fun K hK => ?_) AllReadyH.nil
  have hfn : fnd rs (((l1 : Int), t') : Rt).2.k = none := by
    rw [fnd_none]
    intro r hr
    have := HW.out.2.2.2.2.1 _ (mem_row HW.out.1 hr)
    show r.2.k ≠ t'.k
    rw [HT2.out.2.2]
    exact this
  obtain ⟨w3, h3, hM3, f3, hs3⟩ := (HP1.out.held.fr hS0 (by simp)).store (by have := HW.out.2.2.2.1; omega) (r := ((l1 : Int), t')) (by show kw t'.k; rw [HT2.out.2.2]; exact HW.out.2.2.2.2.2.1.kw) hfn
  have h3' : (Instr.mapUpdate 60 (.map (some hb)) (.agg (kc t.k)) (ev ((l1 : Int), t'))).run Try.prog Y2 = .ok () w3 := by rw [← HT2.out.2.2]; exact h3
  refine wp_update 60 (.tmp 53) (.tmp 55) (.tmp 62) rfl rfl rfl rfl h3' ?_
  clear h3 h3' hfn
  have hS3 : Fr [hb] T1 w3 := hS.trans f3
  refine hK.out _ _ hS3 (fun _ => ?_)
  clear hK K
  try simp only [List.getElem_toArray, List.getElem_cons_succ, List.getElem_cons_zero, Act.put, List.setIfInBounds_toArray, List.set_cons_zero, List.set_cons_succ]
  refine wpAnyH_done (by decide +kernel) ?_ _
  refine plain_end ?_
  have hp2 := (HP1.out.fr0 hS0).setHeld f3 (m := n + 1) (by omega) hM3 (fun r hr => by
    rcases List.mem_append.1 hr with h | h
    · exact .inl h
    · rw [List.mem_singleton.1 h]; exact .inr HT2.out.2.1)
  have HP2 : Hid (CP w3 B c pa pcap hb ov fb lb S.lim S.pk l1 S.top (n + 1) (rs ++ [((l1 : Int), t')]) (rs.map mb) (failsF S.notes) (linksF S.notes)) := hp2
  have HG2 : Hid (Gm B pP true W w3) := (HG1.out.trans (Gm.ofFr0 hS0)).trans ((HP1.out.fr0 hS0).gmHeld f3)
  have hx3 : w3.heap[tb]? = some (.cells t.arr 35 (0, 0)) := (hS3.block _ (Array.getElem?_eq_some_iff.1 HX1.out).1 (by obtain ⟨es, cl, hk⟩ := HP1.out.held.blk; intro hm; have e : tb = hb := (by simpa using hm); rw [← e, HX1.out] at hk; cases hk)).trans HX1.out
  have HX3 : Hid (w3.heap[tb]? = some (.cells t.arr 35 (0, 0)) ∧ B ≤ w3.heap.size) := ⟨hx3, Nat.le_trans HB.out hS3.size⟩
  have HA2 : Hid (t'.abs = t.abs ∧ t'.k = t.k) := ⟨HT2.out.1, HT2.out.2.2⟩
  clear hp2 hx3 hM3 f3 hs3 hS hS3 hS0 HP1 HG1 HX1 HT1 HT2 HB L3 L9 L5 L10
  -- the order
  go_upto_region 8 with fail
  obtain ⟨oa, oc, rfl, honil⟩ := own_slice HP2.out.ord
  obtain ⟨N1, hN1⟩ : ∃ N1, (rs.map mb).length = N1 := ⟨_, rfl⟩
  rw [hN1] at HP2 honil
  have HN1 : Hid ((rs.map mb).length = N1) := hN1
  clear hN1
  have HON : Hid (oa = none → N1 = 0 ∧ oc = 0) := honil
  have hcw3 : c < w3.heap.size := (Array.getElem?_eq_some_iff.1 HP2.out.blk).1
  obtain ⟨ie, i1, i2, i3, i4⟩ := info_parts ci83
  have HIE : Hid (Try.prog.info? 83 = some ie ∧ ie.zero = some (.agg (mcp (0, k00)).toArray) ∧ ie.size = 11 ∧ ie.bytes = 88) := ⟨i1, i2, i3, i4⟩
  have LC : Hid (∀ w', Fr [] w3 w' → w'.cell? ⟨c, 3, none⟩ = some (.slice oa N1 oc)) := fun w' f => f.cellNew HP2.out.blk (by simp) rfl
  have LT : Hid (∀ w' : World, w'.heap[tb]? = some (.cells t.arr 35 (0, 0)) → w'.rangeAt tb 0 (kc t.k).toList) := fun w' f => Tr.key_range f
  have hcO : ∀ k, (Value.slice oa N1 oc).ownBlock = some k → k ≠ c := fun k hk e => by subst e; exact own_ne HP2.out.ord HP2.out.blk (by decide) hk
  have htO : ∀ k, (Value.slice oa N1 oc).ownBlock = some k → k ≠ tb := fun k hk e => by subst e; exact own_ne HP2.out.ord HX3.out.1 (by decide) hk
  have HCO : Hid ((∀ k, (Value.slice oa N1 oc).ownBlock = some k → k ≠ c) ∧ (∀ k, (Value.slice oa N1 oc).ownBlock = some k → k ≠ tb) ∧ c < w3.heap.size ∧ tb ≠ c) := ⟨hcO, htO, hcw3, by rintro rfl; exact absurd (ne_cells HP2.out.blk HX3.out.1) (by decide)⟩
  have HNL : Hid (N1 + 1 ≤ maxLen ∧ (N1 + 1) * 88 ≤ 140737488355328) := by
    have := HW.out.2.2.2.2.2.2
    rw [← HN1.out, List.length_map]
    refine ⟨?_, ?_⟩
    · simp only [maxLen]; omega
    · omega
  have hF : Fr [] w3 w3.drew := (Fr.refl _ _).drew
  have hSi : w3.drew.cell? ⟨c, 6, none⟩ = some (.int .i64 (l1 : Int)) ∧ w3.drew.heap[tb]? = some (.cells t.arr 35 (0, 0)) := ⟨hF.cellNew HP2.out.blk (by simp) rfl, (hF.block _ (Array.getElem?_eq_some_iff.1 HX3.out.1).1 (by simp)).trans HX3.out.1⟩
  have hS := hSi
  clear hSi hcO htO hcw3 i1 i2 i3 i4 honil
  refine reg_in (fun w' => w'.cell? ⟨c, 6, none⟩ = some (.int .i64 (l1 : Int)) ∧ w'.heap[tb]? = some (.cells t.arr 35 (0, 0))) ?_
  generalize w3.drew = Y at *
  refine tk 0 (some 63) (.pointer (some ⟨c, 0, none⟩)) rfl rfl (Or.inl ⟨rfl, fun wq hSq => by first | rfl | go_simp⟩) (by decide +kernel) hS ?_
  simp only [Act.put, List.setIfInBounds_toArray, List.set_cons_zero, List.set_cons_succ]
  refine tk 1 (some 64) (.pointer (some ⟨c, 0, none⟩)) rfl rfl (Or.inl ⟨rfl, fun wq hSq => by first | rfl | go_simp⟩) (by decide +kernel) hS ?_
  simp only [Act.put, List.setIfInBounds_toArray, List.set_cons_zero, List.set_cons_succ]
  refine tk 2 (some 65) (.pointer (some ⟨c, 0, none⟩)) rfl rfl (Or.inl ⟨rfl, fun wq hSq => by first | rfl | go_simp⟩) (by decide +kernel) hS ?_
  simp only [Act.put, List.setIfInBounds_toArray, List.set_cons_zero, List.set_cons_succ]
  refine tk 3 (some 66) (.pointer (some ⟨c, 3, none⟩)) rfl rfl (Or.inl ⟨rfl, fun wq hSq => by first | rfl | go_simp⟩) (by decide +kernel) hS ?_
  simp only [Act.put, List.setIfInBounds_toArray, List.set_cons_zero, List.set_cons_succ]
  refine tk 5 (some 68) (.pointer (some ⟨c, 0, none⟩)) rfl rfl (Or.inl ⟨rfl, fun wq hSq => by first | rfl | go_simp⟩) (by decide +kernel) hS ?_
  simp only [Act.put, List.setIfInBounds_toArray, List.set_cons_zero, List.set_cons_succ]
  refine tk 6 (some 69) (.pointer (some ⟨c, 0, none⟩)) rfl rfl (Or.inl ⟨rfl, fun wq hSq => by first | rfl | go_simp⟩) (by decide +kernel) hS ?_
  simp only [Act.put, List.setIfInBounds_toArray, List.set_cons_zero, List.set_cons_succ]
  refine tk 7 (some 70) (.pointer (some ⟨c, 6, none⟩)) rfl rfl (Or.inl ⟨rfl, fun wq hSq => by first | rfl | go_simp⟩) (by decide +kernel) hS ?_
  simp only [Act.put, List.setIfInBounds_toArray, List.set_cons_zero, List.set_cons_succ]
  refine tk 8 (some 71) (.int .i64 (l1 : Int)) rfl rfl (Or.inl ⟨rfl, fun wq hSq => by have q := hSq.1; go_simp⟩) (by decide +kernel) hS ?_
  simp only [Act.put, List.setIfInBounds_toArray, List.set_cons_zero, List.set_cons_succ]
  refine tk 9 (some 72) (.pointer (some ⟨tb, 0, none⟩)) rfl rfl (Or.inl ⟨rfl, fun wq hSq => by first | rfl | go_simp⟩) (by decide +kernel) hS ?_
  simp only [Act.put, List.setIfInBounds_toArray, List.set_cons_zero, List.set_cons_succ]
  refine tk 10 (some 73) (.agg (kc t.k)) rfl rfl ?_ (by decide +kernel) hS ?_
  · exact yieldsIf_load_mid rfl 29 (.tmp 72) rfl tb 0 rfl (kc t.k).toList _ (fun wq hSq => LT.out wq hSq.2) Try.underlying29 rfl (by rw [info29]; simp [kc_size])
  simp only [Act.put, List.setIfInBounds_toArray, List.set_cons_zero, List.set_cons_succ]
  refine tk 11 (some 74) (.agg (mcp ((l1 : Int), t.k)).toArray) rfl rfl ?_ (by decide +kernel) hS ?_
  · exact yields_build83 rfl (.tmp 71) (.tmp 73) rfl (l1 : Int) t.k rfl rfl
  simp only [Act.put, List.setIfInBounds_toArray, List.set_cons_zero, List.set_cons_succ]
  refine wpAnyH_ready (rs := [4, 12]) (by decide +kernel) (by simp) ?_
  refine AllReadyH.cons rfl (fun K hK => ?_) ?_
  · skip
    have q := LC.out _ hF
    go_simp
    clear q
    refine hK.out _ _ hS (fun _ => ?_)
    clear hK K
    try simp only [List.getElem_toArray, List.getElem_cons_succ, List.getElem_cons_zero, Act.put, List.setIfInBounds_toArray, List.set_cons_zero, List.set_cons_succ]
    refine wpAnyH_ready (rs := [12]) (by decide +kernel) (by simp) ?_
    refine AllReadyH.cons rfl (fun K hK => ?_) AllReadyH.nil
    refine wp_slice1 61 83 11 88 (.tmp 74) (mcp ((l1 : Int), t.k)).toArray _ rfl rfl cu61 ci83 (by decide) (by decide) (mcp_size _) ?_
    have hbS := heap_alloc_new Y (.cells (mcp ((l1 : Int), t.k)).toArray 83)
    have hYs : w3.heap.size ≤ Y.heap.size := hF.size
    have hF := hF.alloc (.cells (mcp ((l1 : Int), t.k)).toArray 83)
    have hS : (Y.alloc (.cells (mcp ((l1 : Int), t.k)).toArray 83)).cell? ⟨c, 6, none⟩ = some (.int .i64 (l1 : Int)) ∧ (Y.alloc (.cells (mcp ((l1 : Int), t.k)).toArray 83)).heap[tb]? = some (.cells t.arr 35 (0, 0)) := ⟨((Fr.refl [] Y).alloc _).cell1 hS.1 (by simp), (((Fr.refl [] Y).alloc _).block _ (Array.getElem?_eq_some_iff.1 hS.2).1 (by simp)).trans hS.2⟩
    have hRB : ∀ (j : Nat) u, (mcp ((l1 : Int), t.k))[j]? = some u → (Y.alloc (.cells (mcp ((l1 : Int), t.k)).toArray 83)).cell? ((⟨Y.heap.size, 0, none⟩ : Addr).add j) = some u := fun j u hu => by have := range_block hbS j u (by simpa using hu); rw [Addr.add_mid]; exact this
    have HRB : Hid (∀ (j : Nat) u, (mcp ((l1 : Int), t.k))[j]? = some u → (Y.alloc (.cells (mcp ((l1 : Int), t.k)).toArray 83)).cell? ((⟨Y.heap.size, 0, none⟩ : Addr).add j) = some u) := hRB
    clear hRB hbS
    generalize Y.alloc (.cells (mcp ((l1 : Int), t.k)).toArray 83) = Z at *
    generalize Y.heap.size = sb at *
    refine hK.out _ _ hS (fun _ => ?_)
    clear hK K
    try simp only [List.getElem_toArray, List.getElem_cons_succ, List.getElem_cons_zero, Act.put, List.setIfInBounds_toArray, List.set_cons_zero, List.set_cons_succ]
    refine wpAnyH_ready (rs := [13]) (by decide +kernel) (by simp) ?_
    refine AllReadyH.cons rfl (fun K hK => ?_) AllReadyH.nil
    refine step_append_src rfl (.tmp 67) (.tmp 75) 61 rfl B 83 ie (.agg (mcp (0, k00)).toArray) 11 88 cu61 HIE.out.1 HIE.out.2.1 HIE.out.2.2.1 HIE.out.2.2.2 rfl (by decide) (.slice oa N1 oc) N1 (flatM (rs.map mb)) rfl (by have := own_fr HP2.out.ord hF (by simp); rw [HN1.out] at this; exact this) (some ⟨sb, 0, none⟩) 1 1 (mcp ((l1 : Int), t.k)) rfl (by rw [mcp_len]) (fun e => by cases e) (fun ad e => by cases e; exact HRB.out) (mcp_one _) HNL.out.1 HNL.out.2 (Nat.le_trans HX3.out.2 hF.size) ?_
    intro v' X2 ho2 hg2 hl2
    obtain ⟨va, vc, rfl, _⟩ := own_slice ho2
    have hF2 : Fr (Value.slice oa N1 oc).ownBlock.toList w3 X2 := (hF.sub (by simp)).trans (Fr.ofGrown hg2)
    have hcn : c ∉ (Value.slice oa N1 oc).ownBlock.toList := fun hm => HCO.out.1 c (by simpa using hm) rfl
    have htn : tb ∉ (Value.slice oa N1 oc).ownBlock.toList := fun hm => HCO.out.2.1 tb (by simpa using hm) rfl
    have hS : X2.cell? ⟨c, 6, none⟩ = some (.int .i64 (l1 : Int)) ∧ X2.heap[tb]? = some (.cells t.arr 35 (0, 0)) := ⟨hF2.cellNew HP2.out.blk hcn rfl, (hF2.block _ (Array.getElem?_eq_some_iff.1 HX3.out.1).1 htn).trans HX3.out.1⟩
    have k3 : X2.cell? ⟨c, 3, none⟩ = some (.slice oa N1 oc) := hF2.cellNew HP2.out.blk hcn rfl
    have z3 : X2.frozen? ⟨c, 3, none⟩ = false := hF2.frzNew HP2.out.blk hcn
    have hbX := (hF2.block _ HCO.out.2.2.1 hcn).trans HP2.out.blk
    refine hK.out _ _ hS (fun _ => ?_)
    clear hK K
    try simp only [List.getElem_toArray, List.getElem_cons_succ, List.getElem_cons_zero, Act.put, List.setIfInBounds_toArray, List.set_cons_zero, List.set_cons_succ]
    refine tk 14 (some 77) (.pointer (some ⟨c, 0, none⟩)) rfl rfl (Or.inl ⟨rfl, fun wq hSq => by first | rfl | go_simp⟩) (by decide +kernel) hS ?_
    simp only [Act.put, List.setIfInBounds_toArray, List.set_cons_zero, List.set_cons_succ]
    refine tk 15 (some 78) (.pointer (some ⟨c, 3, none⟩)) rfl rfl (Or.inl ⟨rfl, fun wq hSq => by first | rfl | go_simp⟩) (by decide +kernel) hS ?_
    simp only [Act.put, List.setIfInBounds_toArray, List.set_cons_zero, List.set_cons_succ]
    refine wpAnyH_ready (rs := [16]) (by decide +kernel) (by simp) ?_
    refine AllReadyH.cons rfl (fun K hK => ?_) AllReadyH.nil
    go_simp
    clear k3 z3
    have f3 : Fr [c] X2 (X2.setCell ⟨c, 3, none⟩ (.slice va (N1 + 1) vc)) := (Fr.refl _ _).setCell (.inl (by simp)) _
    have hS : (X2.setCell ⟨c, 3, none⟩ (.slice va (N1 + 1) vc)).cell? ⟨c, 6, none⟩ = some (.int .i64 (l1 : Int)) ∧ (X2.setCell ⟨c, 3, none⟩ (.slice va (N1 + 1) vc)).heap[tb]? = some (.cells t.arr 35 (0, 0)) := ⟨at_cells (set_blk (i := 3) (v := .slice va (N1 + 1) vc) hbX) 6 rfl, (f3.block _ (Array.getElem?_eq_some_iff.1 hS.2).1 (by simpa using HCO.out.2.2.2)).trans hS.2⟩
    have hbZ := set_blk (i := 3) (v := .slice va (N1 + 1) vc) hbX
    refine hK.out _ _ hS (fun _ => ?_)
    clear hK K
    try simp only [List.getElem_toArray, List.getElem_cons_succ, List.getElem_cons_zero, Act.put, List.setIfInBounds_toArray, List.set_cons_zero, List.set_cons_succ]
    refine wpAnyH_done (by decide +kernel) ?_ _
    refine plain_end ?_
    have hms : (rs ++ [((l1 : Int), t')]).map mb = rs.map mb ++ [((l1 : Int), t.k)] := by rw [List.map_append, ← HA2.out.2]; rfl
    have ho3 : X2.ownsRow B 83 11 (.slice va (N1 + 1) vc) ((rs ++ [((l1 : Int), t')]).map mb).length (flatM ((rs ++ [((l1 : Int), t')]).map mb)) := by
      rw [hms, flatM_app, List.length_append, HN1.out]
      simpa [flatM] using ho2
    have hp3 := HP2.out.setOrd hF2 (fun k hk => by simpa using hk) ho3 (last' := l1) (top' := S.top) f3 hbZ
    have HG3 := HG2.out.trans (HP2.out.gmOrd hF2 (fun k hk => by simpa using hk) f3)
    have hop := HW.out.2.2.1
    have habs2 : (rs ++ [((l1 : Int), t')]).map absR = (pushB S t.abs).rows := by
      rw [List.map_append, HW.out.1, HL1.out]
      show S.rows ++ [(((S.last + 1 : Nat) : Int), t'.abs)] = _
      rw [HA2.out.1]
      rfl
    have hsrt := srt_of habs2 hop
    have hlen3 : ((rs ++ [((l1 : Int), t')]).map mb).length = N1 + 1 := by rw [hms, List.length_append, HN1.out]; rfl
    have hN3 : N1 + 1 = S.rows.length + 1 := by rw [← HN1.out, List.length_map, rs_len2 HW.out.1]
    obtain ⟨g, gc, e1, hcx⟩ := own_cells ho3 (j := 0) (List.getElem?_eq_getElem (by rw [flatM_len, hlen3]; omega))
    injection e1 with e1 e2 e3
    subst e1 e3
    clear hcx
    have C := sort32_any (B := B) (g := g) (c := vc) (L := (rs ++ [((l1 : Int), t')]).map mb) (w := X2.setCell ⟨c, 3, none⟩ (.slice (some ⟨g, 0, none⟩) (N1 + 1) vc)) (by have := hp3.ord; rw [hlen3] at this ⊢; exact this) hsrt (by rw [hlen3]; have := HNL.out.2; omega)
    rw [hlen3] at C
    have HP3 : Hid (CP (X2.setCell ⟨c, 3, none⟩ (.slice (some ⟨g, 0, none⟩) (N1 + 1) vc)) B c pa pcap hb (.slice (some ⟨g, 0, none⟩) (N1 + 1) vc) fb lb S.lim S.pk l1 S.top (n + 1) (rs ++ [((l1 : Int), t')]) ((rs ++ [((l1 : Int), t')]).map mb) (failsF S.notes) (linksF S.notes)) := hp3
    have k3 : (X2.setCell ⟨c, 3, none⟩ (.slice (some ⟨g, 0, none⟩) (N1 + 1) vc)).cell? ⟨c, 3, none⟩ = some (.slice (some ⟨g, 0, none⟩) (N1 + 1) vc) := at_cells hp3.blk 3 rfl
    have HG3 : Hid (Gm B pP true W (X2.setCell ⟨c, 3, none⟩ (.slice (some ⟨g, 0, none⟩) (N1 + 1) vc))) := HG3
    have HAB : Hid ((rs ++ [((l1 : Int), t')]).map absR = (pushB S t.abs).rows) := habs2
    have HN3 : Hid (N1 + 1 = S.rows.length + 1) := hN3
    clear hms ho3 hp3 hop habs2 hsrt hlen3 hN3 e2 hF2 hcn htn hbX f3 hbZ hS ho2 hg2 hl2 HP2 HG2 HX3 HW HA2 HON HIE LC LT HCO HNL HRB hYs hF HN1
    generalize N1 + 1 = N2 at *
    generalize X2.setCell ⟨c, 3, none⟩ (.slice (some ⟨g, 0, none⟩) N2 vc) = X3 at *
    go_upto_region 10 with (go_at_call 32; refine C.mono ?_; rintro e w4 ⟨rfl, f4⟩; clear C k3)
    have HP4 : Hid (CP w4 B c pa pcap hb (.slice (some ⟨g, 0, none⟩) N2 vc) fb lb S.lim S.pk l1 S.top (n + 1) (rs ++ [((l1 : Int), t')]) ((rs ++ [((l1 : Int), t')]).map mb) (failsF S.notes) (linksF S.notes)) := HP3.out.fr0 f4
    have HG4 : Hid (Gm B pP true W w4) := HG3.out.trans (Gm.ofFr0 f4)
    clear f4 HP3 HG3
    have hF : Fr [] w4 w4.drew := (Fr.refl _ _).drew
    have hS : w4.drew.cell? ⟨c, 3, none⟩ = some (.slice (some ⟨g, 0, none⟩) N2 vc) := hF.cellNew HP4.out.blk (by simp) rfl
    have k7 : w4.drew.cell? ⟨c, 7, none⟩ = some (.int .i64 S.top) := hF.cellNew HP4.out.blk (by simp) rfl
    have z7 : w4.drew.frozen? ⟨c, 7, none⟩ = false := hF.frzNew HP4.out.blk (by simp)
    have hbY := (hF.block _ (Array.getElem?_eq_some_iff.1 HP4.out.blk).1 (by simp)).trans HP4.out.blk
    refine reg_in (fun w' => w'.cell? ⟨c, 3, none⟩ = some (.slice (some ⟨g, 0, none⟩) N2 vc)) ?_
    generalize w4.drew = Y at *
    refine tk 0 (some 84) (.pointer (some ⟨c, 0, none⟩)) rfl rfl (Or.inl ⟨rfl, fun wq hSq => by first | rfl | go_simp⟩) (by decide +kernel) hS ?_
    simp only [Act.put, List.setIfInBounds_toArray, List.set_cons_zero, List.set_cons_succ]
    refine tk 1 (some 85) (.pointer (some ⟨c, 0, none⟩)) rfl rfl (Or.inl ⟨rfl, fun wq hSq => by first | rfl | go_simp⟩) (by decide +kernel) hS ?_
    simp only [Act.put, List.setIfInBounds_toArray, List.set_cons_zero, List.set_cons_succ]
    refine tk 2 (some 86) (.pointer (some ⟨c, 0, none⟩)) rfl rfl (Or.inl ⟨rfl, fun wq hSq => by first | rfl | go_simp⟩) (by decide +kernel) hS ?_
    simp only [Act.put, List.setIfInBounds_toArray, List.set_cons_zero, List.set_cons_succ]
    refine tk 3 (some 87) (.pointer (some ⟨c, 7, none⟩)) rfl rfl (Or.inl ⟨rfl, fun wq hSq => by first | rfl | go_simp⟩) (by decide +kernel) hS ?_
    simp only [Act.put, List.setIfInBounds_toArray, List.set_cons_zero, List.set_cons_succ]
    refine tk 5 (some 89) (.pointer (some ⟨c, 0, none⟩)) rfl rfl (Or.inl ⟨rfl, fun wq hSq => by first | rfl | go_simp⟩) (by decide +kernel) hS ?_
    simp only [Act.put, List.setIfInBounds_toArray, List.set_cons_zero, List.set_cons_succ]
    refine tk 6 (some 90) (.pointer (some ⟨c, 0, none⟩)) rfl rfl (Or.inl ⟨rfl, fun wq hSq => by first | rfl | go_simp⟩) (by decide +kernel) hS ?_
    simp only [Act.put, List.setIfInBounds_toArray, List.set_cons_zero, List.set_cons_succ]
    refine tk 7 (some 91) (.pointer (some ⟨c, 3, none⟩)) rfl rfl (Or.inl ⟨rfl, fun wq hSq => by first | rfl | go_simp⟩) (by decide +kernel) hS ?_
    simp only [Act.put, List.setIfInBounds_toArray, List.set_cons_zero, List.set_cons_succ]
    refine tk 8 (some 92) (.slice (some ⟨g, 0, none⟩) N2 vc) rfl rfl (Or.inl ⟨rfl, fun wq hSq => by have q := hSq; go_simp⟩) (by decide +kernel) hS ?_
    simp only [Act.put, List.setIfInBounds_toArray, List.set_cons_zero, List.set_cons_succ]
    refine tk 9 (some 93) (.int .i64 (N2 : Int)) rfl rfl (Or.inl ⟨rfl, fun wq hSq => by go_simp⟩) (by decide +kernel) hS ?_
    simp only [Act.put, List.setIfInBounds_toArray, List.set_cons_zero, List.set_cons_succ]
    refine wpAnyH_ready (rs := [4]) (by decide +kernel) (by simp) ?_
    refine AllReadyH.cons rfl (fun K hK => ?_) AllReadyH.nil
    go_simp
    refine hK.out _ _ hS (fun _ => ?_)
    clear hK K
    try simp only [List.getElem_toArray, List.getElem_cons_succ, List.getElem_cons_zero, Act.put, List.setIfInBounds_toArray, List.set_cons_zero, List.set_cons_succ]
    refine tk 10 (some 94) (.int .i64 (max (S.top : Int) (N2 : Int))) rfl rfl (Or.inl ⟨rfl, fun wq hSq => by go_simp⟩) (by decide +kernel) hS ?_
    simp only [Act.put, List.setIfInBounds_toArray, List.set_cons_zero, List.set_cons_succ]
    refine tk 11 (some 95) (.pointer (some ⟨c, 0, none⟩)) rfl rfl (Or.inl ⟨rfl, fun wq hSq => by first | rfl | go_simp⟩) (by decide +kernel) hS ?_
    simp only [Act.put, List.setIfInBounds_toArray, List.set_cons_zero, List.set_cons_succ]
    refine tk 12 (some 96) (.pointer (some ⟨c, 7, none⟩)) rfl rfl (Or.inl ⟨rfl, fun wq hSq => by first | rfl | go_simp⟩) (by decide +kernel) hS ?_
    simp only [Act.put, List.setIfInBounds_toArray, List.set_cons_zero, List.set_cons_succ]
    refine wpAnyH_ready (rs := [13]) (by decide +kernel) (by simp) ?_
    refine AllReadyH.cons rfl (fun K hK => ?_) AllReadyH.nil
    go_simp
    have hf := set_blk (i := 7) (v := .int .i64 (max (S.top : Int) (N2 : Int))) hbY
    have f7 : Fr [c] Y (Y.setCell ⟨c, 7, none⟩ (.int .i64 (max (S.top : Int) (N2 : Int)))) := (Fr.refl _ _).setCell (.inl (by simp)) _
    have hS : (Y.setCell ⟨c, 7, none⟩ (.int .i64 (max (S.top : Int) (N2 : Int)))).cell? ⟨c, 3, none⟩ = some (.slice (some ⟨g, 0, none⟩) N2 vc) := at_cells hf 3 rfl
    refine hK.out _ _ hS (fun _ => ?_)
    clear hK K
    try simp only [List.getElem_toArray, List.getElem_cons_succ, List.getElem_cons_zero, Act.put, List.setIfInBounds_toArray, List.set_cons_zero, List.set_cons_succ]
    refine wpAnyH_done (by decide +kernel) ?_ _
    refine plain_end ?_
    rw [max_cast] at *
    have hp5 := (HP4.out.fr0 hF).setBlk (last' := l1) (top' := max S.top N2) f7 hf (HP4.out.fr0 hF).pick rfl
    have HF : Hid (CA (Y.setCell ⟨c, 7, none⟩ (.int .i64 ((max S.top N2 : Nat) : Int))) B c (n + 1) (rs ++ [((l1 : Int), t')]) (pushB S t.abs) ∧ Gm B pP true W (Y.setCell ⟨c, 7, none⟩ (.int .i64 ((max S.top N2 : Nat) : Int)))) := by
      refine ⟨⟨⟨pa, pcap, hb, .slice (some ⟨g, 0, none⟩) N2 vc, fb, lb, ?_⟩, HAB.out⟩, (HG4.out.trans (Gm.ofFr0 hF)).trans ((HP4.out.fr0 hF).gmBlk f7)⟩
      show CP _ B c pa pcap hb _ fb lb S.lim S.pk (S.last + 1) (max S.top (S.rows.length + 1)) (n + 1) _ _ (failsF S.notes) (linksF S.notes)
      rw [← HL1.out, ← HN3.out]
      exact hp5
    have k6 : (Y.setCell ⟨c, 7, none⟩ (.int .i64 ((max S.top N2 : Nat) : Int))).cell? ⟨c, 6, none⟩ = some (.int .i64 (l1 : Int)) := at_cells hf 6 rfl
    clear hp5 hf f7 hS k7 z7 hbY hF HP4 HG4 HAB
    generalize Y.setCell ⟨c, 7, none⟩ (.int .i64 ((max S.top N2 : Nat) : Int)) = w5 at *
    go_wp2
    go_ret
    exact ⟨by rw [← HL1.out]; rfl, ⟨_, HF.out.1⟩, HF.out.2⟩
  refine AllReadyH.cons rfl (fun K hK => ?_) AllReadyH.nil
  refine wp_slice1 61 83 11 88 (.tmp 74) (mcp ((l1 : Int), t.k)).toArray _ rfl rfl cu61 ci83 (by decide) (by decide) (mcp_size _) ?_
  have hbS := heap_alloc_new Y (.cells (mcp ((l1 : Int), t.k)).toArray 83)
  have hYs : w3.heap.size ≤ Y.heap.size := hF.size
  have hF := hF.alloc (.cells (mcp ((l1 : Int), t.k)).toArray 83)
  have hS : (Y.alloc (.cells (mcp ((l1 : Int), t.k)).toArray 83)).cell? ⟨c, 6, none⟩ = some (.int .i64 (l1 : Int)) ∧ (Y.alloc (.cells (mcp ((l1 : Int), t.k)).toArray 83)).heap[tb]? = some (.cells t.arr 35 (0, 0)) := ⟨((Fr.refl [] Y).alloc _).cell1 hS.1 (by simp), (((Fr.refl [] Y).alloc _).block _ (Array.getElem?_eq_some_iff.1 hS.2).1 (by simp)).trans hS.2⟩
  have hRB : ∀ (j : Nat) u, (mcp ((l1 : Int), t.k))[j]? = some u → (Y.alloc (.cells (mcp ((l1 : Int), t.k)).toArray 83)).cell? ((⟨Y.heap.size, 0, none⟩ : Addr).add j) = some u := fun j u hu => by have := range_block hbS j u (by simpa using hu); rw [Addr.add_mid]; exact this
  have HRB : Hid (∀ (j : Nat) u, (mcp ((l1 : Int), t.k))[j]? = some u → (Y.alloc (.cells (mcp ((l1 : Int), t.k)).toArray 83)).cell? ((⟨Y.heap.size, 0, none⟩ : Addr).add j) = some u) := hRB
  clear hRB hbS
  generalize Y.alloc (.cells (mcp ((l1 : Int), t.k)).toArray 83) = Z at *
  generalize Y.heap.size = sb at *
  refine hK.out _ _ hS (fun _ => ?_)
  clear hK K
  try simp only [List.getElem_toArray, List.getElem_cons_succ, List.getElem_cons_zero, Act.put, List.setIfInBounds_toArray, List.set_cons_zero, List.set_cons_succ]
  refine wpAnyH_ready (rs := [4]) (by decide +kernel) (by simp) ?_
  refine AllReadyH.cons rfl (fun K hK => ?_) AllReadyH.nil
  have q := LC.out _ hF
  go_simp
  clear q
  refine hK.out _ _ hS (fun _ => ?_)
  clear hK K
  try simp only [List.getElem_toArray, List.getElem_cons_succ, List.getElem_cons_zero, Act.put, List.setIfInBounds_toArray, List.set_cons_zero, List.set_cons_succ]
  refine wpAnyH_ready (rs := [13]) (by decide +kernel) (by simp) ?_
  refine AllReadyH.cons rfl (fun K hK => ?_) AllReadyH.nil
  refine step_append_src rfl (.tmp 67) (.tmp 75) 61 rfl B 83 ie (.agg (mcp (0, k00)).toArray) 11 88 cu61 HIE.out.1 HIE.out.2.1 HIE.out.2.2.1 HIE.out.2.2.2 rfl (by decide) (.slice oa N1 oc) N1 (flatM (rs.map mb)) rfl (by have := own_fr HP2.out.ord hF (by simp); rw [HN1.out] at this; exact this) (some ⟨sb, 0, none⟩) 1 1 (mcp ((l1 : Int), t.k)) rfl (by rw [mcp_len]) (fun e => by cases e) (fun ad e => by cases e; exact HRB.out) (mcp_one _) HNL.out.1 HNL.out.2 (Nat.le_trans HX3.out.2 hF.size) ?_
  intro v' X2 ho2 hg2 hl2
  obtain ⟨va, vc, rfl, _⟩ := own_slice ho2
  have hF2 : Fr (Value.slice oa N1 oc).ownBlock.toList w3 X2 := (hF.sub (by simp)).trans (Fr.ofGrown hg2)
  have hcn : c ∉ (Value.slice oa N1 oc).ownBlock.toList := fun hm => HCO.out.1 c (by simpa using hm) rfl
  have htn : tb ∉ (Value.slice oa N1 oc).ownBlock.toList := fun hm => HCO.out.2.1 tb (by simpa using hm) rfl
  have hS : X2.cell? ⟨c, 6, none⟩ = some (.int .i64 (l1 : Int)) ∧ X2.heap[tb]? = some (.cells t.arr 35 (0, 0)) := ⟨hF2.cellNew HP2.out.blk hcn rfl, (hF2.block _ (Array.getElem?_eq_some_iff.1 HX3.out.1).1 htn).trans HX3.out.1⟩
  have k3 : X2.cell? ⟨c, 3, none⟩ = some (.slice oa N1 oc) := hF2.cellNew HP2.out.blk hcn rfl
  have z3 : X2.frozen? ⟨c, 3, none⟩ = false := hF2.frzNew HP2.out.blk hcn
  have hbX := (hF2.block _ HCO.out.2.2.1 hcn).trans HP2.out.blk
  refine hK.out _ _ hS (fun _ => ?_)
  clear hK K
  try simp only [List.getElem_toArray, List.getElem_cons_succ, List.getElem_cons_zero, Act.put, List.setIfInBounds_toArray, List.set_cons_zero, List.set_cons_succ]
  refine tk 14 (some 77) (.pointer (some ⟨c, 0, none⟩)) rfl rfl (Or.inl ⟨rfl, fun wq hSq => by first | rfl | go_simp⟩) (by decide +kernel) hS ?_
  simp only [Act.put, List.setIfInBounds_toArray, List.set_cons_zero, List.set_cons_succ]
  refine tk 15 (some 78) (.pointer (some ⟨c, 3, none⟩)) rfl rfl (Or.inl ⟨rfl, fun wq hSq => by first | rfl | go_simp⟩) (by decide +kernel) hS ?_
  simp only [Act.put, List.setIfInBounds_toArray, List.set_cons_zero, List.set_cons_succ]
  refine wpAnyH_ready (rs := [16]) (by decide +kernel) (by simp) ?_
  refine AllReadyH.cons rfl (fun K hK => ?_) AllReadyH.nil
  go_simp
  clear k3 z3
  have f3 : Fr [c] X2 (X2.setCell ⟨c, 3, none⟩ (.slice va (N1 + 1) vc)) := (Fr.refl _ _).setCell (.inl (by simp)) _
  have hS : (X2.setCell ⟨c, 3, none⟩ (.slice va (N1 + 1) vc)).cell? ⟨c, 6, none⟩ = some (.int .i64 (l1 : Int)) ∧ (X2.setCell ⟨c, 3, none⟩ (.slice va (N1 + 1) vc)).heap[tb]? = some (.cells t.arr 35 (0, 0)) := ⟨at_cells (set_blk (i := 3) (v := .slice va (N1 + 1) vc) hbX) 6 rfl, (f3.block _ (Array.getElem?_eq_some_iff.1 hS.2).1 (by simpa using HCO.out.2.2.2)).trans hS.2⟩
  have hbZ := set_blk (i := 3) (v := .slice va (N1 + 1) vc) hbX
  refine hK.out _ _ hS (fun _ => ?_)
  clear hK K
  try simp only [List.getElem_toArray, List.getElem_cons_succ, List.getElem_cons_zero, Act.put, List.setIfInBounds_toArray, List.set_cons_zero, List.set_cons_succ]
  refine wpAnyH_done (by decide +kernel) ?_ _
  refine plain_end ?_
  have hms : (rs ++ [((l1 : Int), t')]).map mb = rs.map mb ++ [((l1 : Int), t.k)] := by rw [List.map_append, ← HA2.out.2]; rfl
  have ho3 : X2.ownsRow B 83 11 (.slice va (N1 + 1) vc) ((rs ++ [((l1 : Int), t')]).map mb).length (flatM ((rs ++ [((l1 : Int), t')]).map mb)) := by
    rw [hms, flatM_app, List.length_append, HN1.out]
    simpa [flatM] using ho2
  have hp3 := HP2.out.setOrd hF2 (fun k hk => by simpa using hk) ho3 (last' := l1) (top' := S.top) f3 hbZ
  have HG3 := HG2.out.trans (HP2.out.gmOrd hF2 (fun k hk => by simpa using hk) f3)
  have hop := HW.out.2.2.1
  have habs2 : (rs ++ [((l1 : Int), t')]).map absR = (pushB S t.abs).rows := by
    rw [List.map_append, HW.out.1, HL1.out]
    show S.rows ++ [(((S.last + 1 : Nat) : Int), t'.abs)] = _
    rw [HA2.out.1]
    rfl
  have hsrt := srt_of habs2 hop
  have hlen3 : ((rs ++ [((l1 : Int), t')]).map mb).length = N1 + 1 := by rw [hms, List.length_append, HN1.out]; rfl
  have hN3 : N1 + 1 = S.rows.length + 1 := by rw [← HN1.out, List.length_map, rs_len2 HW.out.1]
  obtain ⟨g, gc, e1, hcx⟩ := own_cells ho3 (j := 0) (List.getElem?_eq_getElem (by rw [flatM_len, hlen3]; omega))
  injection e1 with e1 e2 e3
  subst e1 e3
  clear hcx
  have C := sort32_any (B := B) (g := g) (c := vc) (L := (rs ++ [((l1 : Int), t')]).map mb) (w := X2.setCell ⟨c, 3, none⟩ (.slice (some ⟨g, 0, none⟩) (N1 + 1) vc)) (by have := hp3.ord; rw [hlen3] at this ⊢; exact this) hsrt (by rw [hlen3]; have := HNL.out.2; omega)
  rw [hlen3] at C
  have HP3 : Hid (CP (X2.setCell ⟨c, 3, none⟩ (.slice (some ⟨g, 0, none⟩) (N1 + 1) vc)) B c pa pcap hb (.slice (some ⟨g, 0, none⟩) (N1 + 1) vc) fb lb S.lim S.pk l1 S.top (n + 1) (rs ++ [((l1 : Int), t')]) ((rs ++ [((l1 : Int), t')]).map mb) (failsF S.notes) (linksF S.notes)) := hp3
  have k3 : (X2.setCell ⟨c, 3, none⟩ (.slice (some ⟨g, 0, none⟩) (N1 + 1) vc)).cell? ⟨c, 3, none⟩ = some (.slice (some ⟨g, 0, none⟩) (N1 + 1) vc) := at_cells hp3.blk 3 rfl
  have HG3 : Hid (Gm B pP true W (X2.setCell ⟨c, 3, none⟩ (.slice (some ⟨g, 0, none⟩) (N1 + 1) vc))) := HG3
  have HAB : Hid ((rs ++ [((l1 : Int), t')]).map absR = (pushB S t.abs).rows) := habs2
  have HN3 : Hid (N1 + 1 = S.rows.length + 1) := hN3
  clear hms ho3 hp3 hop habs2 hsrt hlen3 hN3 e2 hF2 hcn htn hbX f3 hbZ hS ho2 hg2 hl2 HP2 HG2 HX3 HW HA2 HON HIE LC LT HCO HNL HRB hYs hF HN1
  generalize N1 + 1 = N2 at *
  generalize X2.setCell ⟨c, 3, none⟩ (.slice (some ⟨g, 0, none⟩) N2 vc) = X3 at *
  go_upto_region 10 with (go_at_call 32; refine C.mono ?_; rintro e w4 ⟨rfl, f4⟩; clear C k3)
  have HP4 : Hid (CP w4 B c pa pcap hb (.slice (some ⟨g, 0, none⟩) N2 vc) fb lb S.lim S.pk l1 S.top (n + 1) (rs ++ [((l1 : Int), t')]) ((rs ++ [((l1 : Int), t')]).map mb) (failsF S.notes) (linksF S.notes)) := HP3.out.fr0 f4
  have HG4 : Hid (Gm B pP true W w4) := HG3.out.trans (Gm.ofFr0 f4)
  clear f4 HP3 HG3
  have hF : Fr [] w4 w4.drew := (Fr.refl _ _).drew
  have hS : w4.drew.cell? ⟨c, 3, none⟩ = some (.slice (some ⟨g, 0, none⟩) N2 vc) := hF.cellNew HP4.out.blk (by simp) rfl
  have k7 : w4.drew.cell? ⟨c, 7, none⟩ = some (.int .i64 S.top) := hF.cellNew HP4.out.blk (by simp) rfl
  have z7 : w4.drew.frozen? ⟨c, 7, none⟩ = false := hF.frzNew HP4.out.blk (by simp)
  have hbY := (hF.block _ (Array.getElem?_eq_some_iff.1 HP4.out.blk).1 (by simp)).trans HP4.out.blk
  refine reg_in (fun w' => w'.cell? ⟨c, 3, none⟩ = some (.slice (some ⟨g, 0, none⟩) N2 vc)) ?_
  generalize w4.drew = Y at *
  refine tk 0 (some 84) (.pointer (some ⟨c, 0, none⟩)) rfl rfl (Or.inl ⟨rfl, fun wq hSq => by first | rfl | go_simp⟩) (by decide +kernel) hS ?_
  simp only [Act.put, List.setIfInBounds_toArray, List.set_cons_zero, List.set_cons_succ]
  refine tk 1 (some 85) (.pointer (some ⟨c, 0, none⟩)) rfl rfl (Or.inl ⟨rfl, fun wq hSq => by first | rfl | go_simp⟩) (by decide +kernel) hS ?_
  simp only [Act.put, List.setIfInBounds_toArray, List.set_cons_zero, List.set_cons_succ]
  refine tk 2 (some 86) (.pointer (some ⟨c, 0, none⟩)) rfl rfl (Or.inl ⟨rfl, fun wq hSq => by first | rfl | go_simp⟩) (by decide +kernel) hS ?_
  simp only [Act.put, List.setIfInBounds_toArray, List.set_cons_zero, List.set_cons_succ]
  refine tk 3 (some 87) (.pointer (some ⟨c, 7, none⟩)) rfl rfl (Or.inl ⟨rfl, fun wq hSq => by first | rfl | go_simp⟩) (by decide +kernel) hS ?_
  simp only [Act.put, List.setIfInBounds_toArray, List.set_cons_zero, List.set_cons_succ]
  refine tk 5 (some 89) (.pointer (some ⟨c, 0, none⟩)) rfl rfl (Or.inl ⟨rfl, fun wq hSq => by first | rfl | go_simp⟩) (by decide +kernel) hS ?_
  simp only [Act.put, List.setIfInBounds_toArray, List.set_cons_zero, List.set_cons_succ]
  refine tk 6 (some 90) (.pointer (some ⟨c, 0, none⟩)) rfl rfl (Or.inl ⟨rfl, fun wq hSq => by first | rfl | go_simp⟩) (by decide +kernel) hS ?_
  simp only [Act.put, List.setIfInBounds_toArray, List.set_cons_zero, List.set_cons_succ]
  refine tk 7 (some 91) (.pointer (some ⟨c, 3, none⟩)) rfl rfl (Or.inl ⟨rfl, fun wq hSq => by first | rfl | go_simp⟩) (by decide +kernel) hS ?_
  simp only [Act.put, List.setIfInBounds_toArray, List.set_cons_zero, List.set_cons_succ]
  refine tk 8 (some 92) (.slice (some ⟨g, 0, none⟩) N2 vc) rfl rfl (Or.inl ⟨rfl, fun wq hSq => by have q := hSq; go_simp⟩) (by decide +kernel) hS ?_
  simp only [Act.put, List.setIfInBounds_toArray, List.set_cons_zero, List.set_cons_succ]
  refine tk 9 (some 93) (.int .i64 (N2 : Int)) rfl rfl (Or.inl ⟨rfl, fun wq hSq => by go_simp⟩) (by decide +kernel) hS ?_
  simp only [Act.put, List.setIfInBounds_toArray, List.set_cons_zero, List.set_cons_succ]
  refine wpAnyH_ready (rs := [4]) (by decide +kernel) (by simp) ?_
  refine AllReadyH.cons rfl (fun K hK => ?_) AllReadyH.nil
  go_simp
  refine hK.out _ _ hS (fun _ => ?_)
  clear hK K
  try simp only [List.getElem_toArray, List.getElem_cons_succ, List.getElem_cons_zero, Act.put, List.setIfInBounds_toArray, List.set_cons_zero, List.set_cons_succ]
  refine tk 10 (some 94) (.int .i64 (max (S.top : Int) (N2 : Int))) rfl rfl (Or.inl ⟨rfl, fun wq hSq => by go_simp⟩) (by decide +kernel) hS ?_
  simp only [Act.put, List.setIfInBounds_toArray, List.set_cons_zero, List.set_cons_succ]
  refine tk 11 (some 95) (.pointer (some ⟨c, 0, none⟩)) rfl rfl (Or.inl ⟨rfl, fun wq hSq => by first | rfl | go_simp⟩) (by decide +kernel) hS ?_
  simp only [Act.put, List.setIfInBounds_toArray, List.set_cons_zero, List.set_cons_succ]
  refine tk 12 (some 96) (.pointer (some ⟨c, 7, none⟩)) rfl rfl (Or.inl ⟨rfl, fun wq hSq => by first | rfl | go_simp⟩) (by decide +kernel) hS ?_
  simp only [Act.put, List.setIfInBounds_toArray, List.set_cons_zero, List.set_cons_succ]
  refine wpAnyH_ready (rs := [13]) (by decide +kernel) (by simp) ?_
  refine AllReadyH.cons rfl (fun K hK => ?_) AllReadyH.nil
  go_simp
  have hf := set_blk (i := 7) (v := .int .i64 (max (S.top : Int) (N2 : Int))) hbY
  have f7 : Fr [c] Y (Y.setCell ⟨c, 7, none⟩ (.int .i64 (max (S.top : Int) (N2 : Int)))) := (Fr.refl _ _).setCell (.inl (by simp)) _
  have hS : (Y.setCell ⟨c, 7, none⟩ (.int .i64 (max (S.top : Int) (N2 : Int)))).cell? ⟨c, 3, none⟩ = some (.slice (some ⟨g, 0, none⟩) N2 vc) := at_cells hf 3 rfl
  refine hK.out _ _ hS (fun _ => ?_)
  clear hK K
  try simp only [List.getElem_toArray, List.getElem_cons_succ, List.getElem_cons_zero, Act.put, List.setIfInBounds_toArray, List.set_cons_zero, List.set_cons_succ]
  refine wpAnyH_done (by decide +kernel) ?_ _
  refine plain_end ?_
  rw [max_cast] at *
  have hp5 := (HP4.out.fr0 hF).setBlk (last' := l1) (top' := max S.top N2) f7 hf (HP4.out.fr0 hF).pick rfl
  have HF : Hid (CA (Y.setCell ⟨c, 7, none⟩ (.int .i64 ((max S.top N2 : Nat) : Int))) B c (n + 1) (rs ++ [((l1 : Int), t')]) (pushB S t.abs) ∧ Gm B pP true W (Y.setCell ⟨c, 7, none⟩ (.int .i64 ((max S.top N2 : Nat) : Int)))) := by
    refine ⟨⟨⟨pa, pcap, hb, .slice (some ⟨g, 0, none⟩) N2 vc, fb, lb, ?_⟩, HAB.out⟩, (HG4.out.trans (Gm.ofFr0 hF)).trans ((HP4.out.fr0 hF).gmBlk f7)⟩
    show CP _ B c pa pcap hb _ fb lb S.lim S.pk (S.last + 1) (max S.top (S.rows.length + 1)) (n + 1) _ _ (failsF S.notes) (linksF S.notes)
    rw [← HL1.out, ← HN3.out]
    exact hp5
  have k6 : (Y.setCell ⟨c, 7, none⟩ (.int .i64 ((max S.top N2 : Nat) : Int))).cell? ⟨c, 6, none⟩ = some (.int .i64 (l1 : Int)) := at_cells hf 6 rfl
  clear hp5 hf f7 hS k7 z7 hbY hF HP4 HG4 HAB
  generalize Y.setCell ⟨c, 7, none⟩ (.int .i64 ((max S.top N2 : Nat) : Int)) = w5 at *
  go_wp2
  go_ret
  exact ⟨by rw [← HL1.out]; rfl, ⟨_, HF.out.1⟩, HF.out.2⟩
end Go.Proofs.Ytnhjplfdfbbihaa
