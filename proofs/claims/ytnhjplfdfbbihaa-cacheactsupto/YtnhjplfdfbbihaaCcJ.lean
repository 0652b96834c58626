/-
  A trace comes into the document's cache: the rows, how many; condition: the cache lies as told.
-/
import Derived.Test.YtnhjplfdfbbihaaCcI
namespace Go.Proofs.Ytnhjplfdfbbihaa
open Go.RowKit Go.Shelf Go.Maps Go.ChangeShapes
set_option linter.unusedVariables false
set_option linter.unusedSimpArgs false
theorem RP.setNum {w w' : World} {B c : Nat} {rv nv : Value} {lim : Nat} {pa : Option Addr} {pcap : Nat} {pf : List Int} {used last top used' last' top' : Nat} {rs : List Rt} {ns : List Nt} (h : RP w B c rv nv lim pa pcap pf used last top rs ns) (f : Fr [c] w w')
    (hb : w'.heap[c]? = some (.cells #[rv, nv, .int .i64 lim, .slice pa pf.length pcap, .int .i64 used', .int .i64 last', .int .i64 top'] 48 (0, 0))) : RP w' B c rv nv lim pa pcap pf used' last' top' rs ns := by
  have hA := away_cells h.blk rfl h.cB
  exact ⟨hb, own_fr h.rows f (fun k hk hm => by
    have : k = c := by simpa using hm
    subst this
    exact own_ne h.rows h.blk (by decide) hk), own_fr h.notes f (fun k hk hm => by
    have : k = c := by simpa using hm
    subst this
    exact own_ne h.notes h.blk (by decide) hk), h.pick.fr f hA, fun r hr => (h.trs r hr).fr f hA, h.cB⟩
/-- A row comes behind the others. -/
theorem RP.push {w w1 w' : World} {B c : Nat} {rv nv rv' : Value} {lim : Nat} {pa : Option Addr} {pcap : Nat} {pf : List Int} {used last top : Nat} {rs rs' : List Rt} {ns : List Nt} (h : RP w B c rv nv lim pa pcap pf used last top rs ns) (f1 : Fr rv.ownBlock.toList w w1) (ho : w1.ownsRow B 52 18 rv' rs'.length (flatR rs')) (f2 : Fr [c] w1 w')
    (hb : w'.heap[c]? = some (.cells #[rv', nv, .int .i64 lim, .slice pa pf.length pcap, .int .i64 used, .int .i64 last, .int .i64 top] 48 (0, 0))) (ht : ∀ r ∈ rs', r ∈ rs ∨ TrOk w B r.2) : RP w' B c rv' nv lim pa pcap pf used last top rs' ns ∧ Gm B pR false w w' := by
  have hrb : ∀ k, k ∈ rv.ownBlock.toList → ∃ cur, w.heap[k]? = some (.cells cur 52 (0, 0)) ∧ B ≤ k := fun k hk => by
    have hk' : rv.ownBlock = some k := by simpa using hk
    rcases h.rows.2 with ⟨e1, _⟩ | ⟨g, cap, cur, e1, hbg, hg, _⟩
    · rw [e1] at hk'; cases hk'
    · rw [e1] at hk'
      cases hk'
      exact ⟨cur, hg, hbg⟩
  have hA1 : Away w B rv.ownBlock.toList := fun k hk => by
    obtain ⟨cur, h1, h2⟩ := hrb k hk
    exact ⟨h2, fun c t h => by rw [h1] at h; cases h; rfl⟩
  have hcn : c ∉ rv.ownBlock.toList := fun hm => by
    obtain ⟨cur, h1, _⟩ := hrb c hm
    exact absurd (ne_cells h.blk h1) (by decide)
  have hb1 := (f1.block _ (Array.getElem?_eq_some_iff.1 h.blk).1 hcn).trans h.blk
  have hA2 : Away w1 B [c] := away_cells hb1 rfl h.cB
  have hn1 : w1.ownsRow B 101 4 nv ns.length (flatN ns) := own_fr h.notes f1 (fun k hk hm => by
    obtain ⟨cur, h1, _⟩ := hrb k hm
    exact own_ne h.notes h1 (by decide) hk)
  refine ⟨⟨hb, own_fr ho f2 (fun k hk hm => by
    have : k = c := by simpa using hm
    subst this
    exact own_ne ho hb1 (by decide) hk), own_fr hn1 f2 (fun k hk hm => by
    have : k = c := by simpa using hm
    subst this
    exact own_ne hn1 hb1 (by decide) hk), (h.pick.fr f1 hA1).fr f2 hA2, fun r hr => ?_, h.cB⟩, (Gm.ofFr f1 (fun k hk => by
    obtain ⟨cur, h1, h2⟩ := hrb k hk
    exact .inr ⟨h2, .inl ⟨_, _, _, h1, rfl⟩⟩)).trans (Gm.ofFr f2 (fun k hm => by
    have : k = c := by simpa using hm
    subst this
    exact .inr ⟨h.cB, .inl ⟨_, _, _, hb1, rfl⟩⟩))⟩
  rcases ht r hr with hr | hr
  · exact ((h.trs r hr).fr f1 hA1).fr f2 hA2
  · exact (hr.fr f1 hA1).fr f2 hA2
set_option maxRecDepth 100000 in
theorem build52 (i : Int) (t : Tr) (w : World) : (Instr.build 52 #[(0, .int .i64 i), (1, .agg t.arr)]).run Try.prog w = .ok (.agg (evl (i, t)).toArray) w := by
  obtain ⟨⟨a, b, c, d, e, f, g, h, x, j⟩, fn, pc, ia, ic, ins, oa, oc, ops, la, lc, links, va, vc, virts, ba, bc, back⟩ := t
  exact run_build w 52 _ _ (by kernel_rfl)
theorem yields_build52 {ops : Array Oper} {S : World → Prop} {o : Oper} {a : Act} (hgd : o.guard = none) (x y : Operand) (ho : o.op = .build 52 #[(0, x), (1, y)]) (i : Int) (t : Tr) (hx : a.eval x = .int .i64 i) (hy : a.eval y = .agg t.arr) : YieldsIf Try.prog ops S o (.agg (evl (i, t)).toArray) a := by
  refine Or.inl ⟨by simp [Region.wanted, hgd], fun w _ => ?_⟩
  have e1 : (#[(0, x), (1, y)].map fun (i, x) => (i, a.eval x)) = #[(0, .int .i64 i), (1, .agg t.arr)] := by simp [hx, hy]
  unfold execOp
  simp only [ho, e1, Sem.run_bind, build52, Result.andThen_ok, Sem.run_pure]
set_option maxRecDepth 100000 in
set_option maxHeartbeats 8000000 in
theorem put_rt {W : World} {B c n tb : Nat} {rs : List Rt} {S : Bk} {t : Tr} (h : RA W B c rs S) (ho : Ok S n) (hn : n ≤ 1048576) (hBW : B ≤ W.heap.size) (hx : W.heap[tb]? = some (.cells t.arr 35 (0, 0))) (ht : TrOk W B t) {u1 u2 u4 u5 u6 u7 u8 u9 u10 u11 u12 u13 u14 u15 u16 u17 u18 u19 u20 u21 u22 u23 u24 u25 u26 u27 u28 u29 u30 u31 u32 u33 u34 u35 u36 u37 u38 u39 u40 u41 u42 u43 u44 u45 u46 u47 u48 u49 u50 u51 u52 u53 u54 u55 u56 u57 u58 u59 u60 u61 u62 u63 u64 u65 u66 u67 u68 u69 u70 u71 u72 u73 u74 u75 u76 u77 u78 u79 u80 u81 u82 u83 u84 u85 u86 u87 u88 u89 u90 u91 u92 u93 u94 u95 u96 u97 u98 u99 u100 u101 u102 u103 u104 u105 u106 u107 u108 u109 u110 u111 u112 u113 u114 u115 : Value} :
    (sub Try.f23 [1, 1, 1, 1]).wp Try.prog (bodyPost Try.prog Try.f23 fun e w' => e = .returned (.int .i64 ((S.last + 1 : Nat) : Int)) ∧ (∃ rs', RA w' B c rs' (pushB S t.abs)) ∧ Gm B pR false W w') { tmps := #[.pointer (some ⟨c, 0, none⟩), u1, u2, .pointer (some ⟨tb, 0, none⟩), u4, u5, u6, u7, u8, u9, u10, u11, u12, u13, u14, u15, u16, u17, u18, u19, u20, u21, u22, u23, u24, u25, u26, u27, u28, u29, u30, u31, u32, u33, u34, u35, u36, u37, u38, u39, u40, u41, u42, u43, u44, u45, u46, u47, u48, u49, u50, u51, u52, u53, u54, u55, u56, u57, u58, u59, u60, u61, u62, u63, u64, u65, u66, u67, u68, u69, u70, u71, u72, u73, u74, u75, u76, u77, u78, u79, u80, u81, u82, u83, u84, u85, u86, u87, u88, u89, u90, u91, u92, u93, u94, u95, u96, u97, u98, u99, u100, u101, u102, u103, u104, u105, u106, u107, u108, u109, u110, u111, u112, u113, u114, u115], defers := [] } W := by
  obtain ⟨rv, nv, pa, pcap, pf, used, hp, hpk, hus⟩ := h.ex
  have habs := h.abs
  have hlast : S.last ≤ n := ho.last
  have hlen := rs_len habs ho
  obtain ⟨z, hz⟩ : ∃ z : Int, z = S.last := ⟨_, rfl⟩
  have k5 : W.cell? ⟨c, 5, none⟩ = some (.int .i64 z) := by rw [hz]; exact at_cells hp.blk 5 rfl
  have z5 : W.frozen? ⟨c, 5, none⟩ = false := frz hp.blk
  have f1 : Fr [c] W (W.setCell ⟨c, 5, none⟩ (.int .i64 ((S.last + 1 : Nat) : Int))) := (Fr.refl _ _).setCell (.inl (by simp)) _
  have hb1 := set_blk (i := 5) (v := .int .i64 ((S.last + 1 : Nat) : Int)) hp.blk
  have hp1 := hp.setNum (used' := used) (last' := S.last + 1) (top' := S.top) f1 hb1
  have hg1 := hp.gmBlk f1
  have htc : tb ≠ c := by rintro rfl; exact absurd (ne_cells hp.blk hx) (by decide)
  have hx1 := (f1.block _ (Array.getElem?_eq_some_iff.1 hx).1 (by simpa using htc)).trans hx
  have ht1 := ht.fr f1 (away_cells hp.blk rfl hp.cB)
  have HW : Hid (rs.map absR = S.rows ∧ pf.drop used = S.pk ∧ used ≤ pf.length ∧ rs.length ≤ 1000) := ⟨habs, hpk, hus, hlen⟩
  have HB : Hid (B ≤ (W.setCell ⟨c, 5, none⟩ (.int .i64 ((S.last + 1 : Nat) : Int))).heap.size) := Nat.le_trans hBW f1.size
  have HG1 : Hid (Gm B pR false W (W.setCell ⟨c, 5, none⟩ (.int .i64 ((S.last + 1 : Nat) : Int)))) := hg1
  have hz0 : 0 ≤ z := by omega
  have hz1 : z + 1 ≤ 1000000000000000 := by omega
  have HZ : Hid (z = S.last) := hz
  have HP1 : Hid (RP (W.setCell ⟨c, 5, none⟩ (.int .i64 ((S.last + 1 : Nat) : Int))) B c rv nv S.lim pa pcap pf used (S.last + 1) S.top rs S.notes) := hp1
  have HX1 : Hid ((W.setCell ⟨c, 5, none⟩ (.int .i64 ((S.last + 1 : Nat) : Int))).heap[tb]? = some (.cells t.arr 35 (0, 0)) ∧ TrOk (W.setCell ⟨c, 5, none⟩ (.int .i64 ((S.last + 1 : Nat) : Int))) B t ∧ tb ≠ c) := ⟨hx1, ht1, htc⟩
  clear h hp habs ho hn hlast hlen hz f1 hb1 hp1 hg1 hx hx1 ht ht1 htc hBW hpk hus
  dsimp only [sub, nav, kid, Try.f23, Option.getD, if_true, if_false]
  go_upto_region 16 with fail
  rw [show (z + 1) = ((S.last + 1 : Nat) : Int) by rw [HZ.out]; rfl]
  clear k5 z5 hz0 hz1
  generalize W.setCell ⟨c, 5, none⟩ (.int .i64 ((S.last + 1 : Nat) : Int)) = w3 at *
  obtain ⟨l1, hl1⟩ : ∃ l1, l1 = S.last + 1 := ⟨_, rfl⟩
  rw [← hl1] at HP1 ⊢
  have HL1 : Hid (l1 = S.last + 1) := hl1
  clear hl1
  obtain ⟨oa, oc, rfl, _⟩ := own_slice HP1.out.rows
  obtain ⟨N1, hN1⟩ : ∃ N1, rs.length = N1 := ⟨_, rfl⟩
  rw [hN1] at HP1
  have HN1 : Hid (rs.length = N1) := hN1
  clear hN1
  obtain ⟨ie, i1, i2, i3, i4⟩ := info_parts ci52
  have HIE : Hid (Try.prog.info? 52 = some ie ∧ ie.zero = some (ev (0, tr0)) ∧ ie.size = 18 ∧ ie.bytes = 224) := ⟨i1, i2, i3, i4⟩
  have LC : Hid (∀ w', Fr [] w3 w' → w'.cell? ⟨c, 0, none⟩ = some (.slice oa N1 oc)) := fun w' f => f.cellNew HP1.out.blk (by simp) rfl
  have HCO : Hid ((∀ k, (Value.slice oa N1 oc).ownBlock = some k → k ≠ c) ∧ (∀ k, (Value.slice oa N1 oc).ownBlock = some k → k ≠ tb) ∧ c < w3.heap.size) := ⟨fun k hk e => by subst e; exact own_ne HP1.out.rows HP1.out.blk (by decide) hk, fun k hk e => by subst e; exact own_ne HP1.out.rows HX1.out.1 (by decide) hk, (Array.getElem?_eq_some_iff.1 HP1.out.blk).1⟩
  have HNL : Hid (N1 + 1 ≤ maxLen ∧ (N1 + 1) * 224 ≤ 140737488355328) := by
    have := HW.out.2.2.2
    rw [← HN1.out]
    refine ⟨?_, ?_⟩
    · simp only [maxLen]; omega
    · omega
  have hF : Fr [] w3 w3.drew := (Fr.refl _ _).drew
  have hS : w3.drew.cell? ⟨c, 5, none⟩ = some (.int .i64 (l1 : Int)) ∧ w3.drew.heap[tb]? = some (.cells t.arr 35 (0, 0)) := ⟨hF.cellNew HP1.out.blk (by simp) rfl, (hF.block _ (Array.getElem?_eq_some_iff.1 HX1.out.1).1 (by simp)).trans HX1.out.1⟩
  clear i1 i2 i3 i4
  refine reg_in (fun w' => w'.cell? ⟨c, 5, none⟩ = some (.int .i64 (l1 : Int)) ∧ w'.heap[tb]? = some (.cells t.arr 35 (0, 0))) ?_
  generalize w3.drew = Y at *
  refine tk 0 (some 84) (.pointer (some ⟨c, 0, none⟩)) rfl rfl (Or.inl ⟨rfl, fun wq hSq => by first | rfl | go_simp⟩) (by decide +kernel) hS ?_
  simp only [Act.put, List.setIfInBounds_toArray, List.set_cons_zero, List.set_cons_succ]
  refine tk 1 (some 85) (.pointer (some ⟨c, 0, none⟩)) rfl rfl (Or.inl ⟨rfl, fun wq hSq => by first | rfl | go_simp⟩) (by decide +kernel) hS ?_
  simp only [Act.put, List.setIfInBounds_toArray, List.set_cons_zero, List.set_cons_succ]
  refine tk 2 (some 86) (.pointer (some ⟨c, 0, none⟩)) rfl rfl (Or.inl ⟨rfl, fun wq hSq => by first | rfl | go_simp⟩) (by decide +kernel) hS ?_
  simp only [Act.put, List.setIfInBounds_toArray, List.set_cons_zero, List.set_cons_succ]
  refine tk 3 (some 87) (.pointer (some ⟨c, 0, none⟩)) rfl rfl (Or.inl ⟨rfl, fun wq hSq => by first | rfl | go_simp⟩) (by decide +kernel) hS ?_
  simp only [Act.put, List.setIfInBounds_toArray, List.set_cons_zero, List.set_cons_succ]
  refine tk 5 (some 89) (.pointer (some ⟨c, 0, none⟩)) rfl rfl (Or.inl ⟨rfl, fun wq hSq => by first | rfl | go_simp⟩) (by decide +kernel) hS ?_
  simp only [Act.put, List.setIfInBounds_toArray, List.set_cons_zero, List.set_cons_succ]
  refine tk 6 (some 90) (.pointer (some ⟨c, 0, none⟩)) rfl rfl (Or.inl ⟨rfl, fun wq hSq => by first | rfl | go_simp⟩) (by decide +kernel) hS ?_
  simp only [Act.put, List.setIfInBounds_toArray, List.set_cons_zero, List.set_cons_succ]
  refine tk 7 (some 91) (.pointer (some ⟨c, 5, none⟩)) rfl rfl (Or.inl ⟨rfl, fun wq hSq => by first | rfl | go_simp⟩) (by decide +kernel) hS ?_
  simp only [Act.put, List.setIfInBounds_toArray, List.set_cons_zero, List.set_cons_succ]
  refine tk 8 (some 92) (.int .i64 (l1 : Int)) rfl rfl (Or.inl ⟨rfl, fun wq hSq => by have q := hSq.1; go_simp⟩) (by decide +kernel) hS ?_
  simp only [Act.put, List.setIfInBounds_toArray, List.set_cons_zero, List.set_cons_succ]
  refine tk 9 (some 93) (.agg t.arr) rfl rfl ?_ (by decide +kernel) hS ?_
  · exact yieldsIf_load_mid rfl 35 (.tmp 3) rfl tb 0 rfl t.cl _ (fun wq hSq => Tr.range hSq.2) Try.underlying35 rfl (by rw [Tr.cl_len]; exact info35)
  simp only [Act.put, List.setIfInBounds_toArray, List.set_cons_zero, List.set_cons_succ]
  refine tk 10 (some 94) (.agg (evl ((l1 : Int), t)).toArray) rfl rfl ?_ (by decide +kernel) hS ?_
  · exact yields_build52 rfl (.tmp 92) (.tmp 93) rfl (l1 : Int) t rfl rfl
  simp only [Act.put, List.setIfInBounds_toArray, List.set_cons_zero, List.set_cons_succ]
  refine wpAnyH_ready (rs := [4, 11]) (by decide +kernel) (by simp) ?_
  refine AllReadyH.cons rfl (fun K hK => ?_) ?_
  · skip
    have q := LC.out _ hF
    go_simp
    clear q
    refine hK.out _ _ hS (fun _ => ?_)
    clear hK K
    try simp only [List.getElem_toArray, List.getElem_cons_succ, List.getElem_cons_zero, Act.put, List.setIfInBounds_toArray, List.set_cons_zero, List.set_cons_succ]
    refine wpAnyH_ready (rs := [11]) (by decide +kernel) (by simp) ?_
    refine AllReadyH.cons rfl (fun K hK => ?_) AllReadyH.nil
    refine wp_slice1 45 52 18 224 (.tmp 94) (evl ((l1 : Int), t)).toArray _ rfl rfl cu45r ci52 (by decide) (by decide) (evl_size _) ?_
    have hbS := heap_alloc_new Y (.cells (evl ((l1 : Int), t)).toArray 52)
    have hYs : w3.heap.size ≤ Y.heap.size := hF.size
    have hF := hF.alloc (.cells (evl ((l1 : Int), t)).toArray 52)
    have hS : (Y.alloc (.cells (evl ((l1 : Int), t)).toArray 52)).cell? ⟨c, 5, none⟩ = some (.int .i64 (l1 : Int)) ∧ (Y.alloc (.cells (evl ((l1 : Int), t)).toArray 52)).heap[tb]? = some (.cells t.arr 35 (0, 0)) := ⟨((Fr.refl [] Y).alloc _).cell1 hS.1 (by simp), (((Fr.refl [] Y).alloc _).block _ (Array.getElem?_eq_some_iff.1 hS.2).1 (by simp)).trans hS.2⟩
    have hRB : ∀ (j : Nat) u, (evl ((l1 : Int), t))[j]? = some u → (Y.alloc (.cells (evl ((l1 : Int), t)).toArray 52)).cell? ((⟨Y.heap.size, 0, none⟩ : Addr).add j) = some u := fun j u hu => by have := range_block hbS j u (by simpa using hu); rw [Addr.add_mid]; exact this
    have HRB : Hid (∀ (j : Nat) u, (evl ((l1 : Int), t))[j]? = some u → (Y.alloc (.cells (evl ((l1 : Int), t)).toArray 52)).cell? ((⟨Y.heap.size, 0, none⟩ : Addr).add j) = some u) := hRB
    clear hRB hbS
    generalize Y.alloc (.cells (evl ((l1 : Int), t)).toArray 52) = Z at *
    generalize Y.heap.size = sb at *
    refine hK.out _ _ hS (fun _ => ?_)
    clear hK K
    try simp only [List.getElem_toArray, List.getElem_cons_succ, List.getElem_cons_zero, Act.put, List.setIfInBounds_toArray, List.set_cons_zero, List.set_cons_succ]
    refine wpAnyH_ready (rs := [12]) (by decide +kernel) (by simp) ?_
    refine AllReadyH.cons rfl (fun K hK => ?_) AllReadyH.nil
    refine step_append_src rfl (.tmp 88) (.tmp 95) 45 rfl B 52 ie (ev (0, tr0)) 18 224 cu45r HIE.out.1 HIE.out.2.1 HIE.out.2.2.1 HIE.out.2.2.2 (by kernel_rfl) (by decide) (.slice oa N1 oc) N1 (flatR rs) rfl (by have := own_fr HP1.out.rows hF (by simp); rw [HN1.out] at this; exact this) (some ⟨sb, 0, none⟩) 1 1 (evl ((l1 : Int), t)) rfl (by rw [evl_len]) (fun e => by cases e) (fun ad e => by cases e; exact HRB.out) (fun u hu => flatR_one [((l1 : Int), t)] u (by simpa [flatR] using hu)) HNL.out.1 HNL.out.2 (Nat.le_trans HB.out hF.size) ?_
    intro v' X2 ho2 hg2 hl2
    obtain ⟨va, vc, rfl, _⟩ := own_slice ho2
    have hF2 : Fr (Value.slice oa N1 oc).ownBlock.toList w3 X2 := (hF.sub (by simp)).trans (Fr.ofGrown hg2)
    have hcn : c ∉ (Value.slice oa N1 oc).ownBlock.toList := fun hm => HCO.out.1 c (by simpa using hm) rfl
    have htn : tb ∉ (Value.slice oa N1 oc).ownBlock.toList := fun hm => HCO.out.2.1 tb (by simpa using hm) rfl
    have hS : X2.cell? ⟨c, 5, none⟩ = some (.int .i64 (l1 : Int)) ∧ X2.heap[tb]? = some (.cells t.arr 35 (0, 0)) := ⟨hF2.cellNew HP1.out.blk hcn rfl, (hF2.block _ (Array.getElem?_eq_some_iff.1 HX1.out.1).1 htn).trans HX1.out.1⟩
    have q0 : X2.cell? ⟨c, 0, none⟩ = some (.slice oa N1 oc) := hF2.cellNew HP1.out.blk hcn rfl
    have z0 : X2.frozen? ⟨c, 0, none⟩ = false := hF2.frzNew HP1.out.blk hcn
    have hbX := (hF2.block _ HCO.out.2.2 hcn).trans HP1.out.blk
    refine hK.out _ _ hS (fun _ => ?_)
    clear hK K
    try simp only [List.getElem_toArray, List.getElem_cons_succ, List.getElem_cons_zero, Act.put, List.setIfInBounds_toArray, List.set_cons_zero, List.set_cons_succ]
    refine tk 13 (some 97) (.pointer (some ⟨c, 0, none⟩)) rfl rfl (Or.inl ⟨rfl, fun wq hSq => by first | rfl | go_simp⟩) (by decide +kernel) hS ?_
    simp only [Act.put, List.setIfInBounds_toArray, List.set_cons_zero, List.set_cons_succ]
    refine tk 14 (some 98) (.pointer (some ⟨c, 0, none⟩)) rfl rfl (Or.inl ⟨rfl, fun wq hSq => by first | rfl | go_simp⟩) (by decide +kernel) hS ?_
    simp only [Act.put, List.setIfInBounds_toArray, List.set_cons_zero, List.set_cons_succ]
    refine wpAnyH_ready (rs := [15]) (by decide +kernel) (by simp) ?_
    refine AllReadyH.cons rfl (fun K hK => ?_) AllReadyH.nil
    go_simp
    clear q0 z0
    have f3 : Fr [c] X2 (X2.setCell ⟨c, 0, none⟩ (.slice va (N1 + 1) vc)) := (Fr.refl _ _).setCell (.inl (by simp)) _
    have hS : (X2.setCell ⟨c, 0, none⟩ (.slice va (N1 + 1) vc)).cell? ⟨c, 5, none⟩ = some (.int .i64 (l1 : Int)) ∧ (X2.setCell ⟨c, 0, none⟩ (.slice va (N1 + 1) vc)).heap[tb]? = some (.cells t.arr 35 (0, 0)) := ⟨at_cells (set_blk (i := 0) (v := .slice va (N1 + 1) vc) hbX) 5 rfl, (f3.block _ (Array.getElem?_eq_some_iff.1 hS.2).1 (by simpa using HX1.out.2.2)).trans hS.2⟩
    have hbZ := set_blk (i := 0) (v := .slice va (N1 + 1) vc) hbX
    refine hK.out _ _ hS (fun _ => ?_)
    clear hK K
    try simp only [List.getElem_toArray, List.getElem_cons_succ, List.getElem_cons_zero, Act.put, List.setIfInBounds_toArray, List.set_cons_zero, List.set_cons_succ]
    refine wpAnyH_done (by decide +kernel) ?_ _
    refine plain_end ?_
    have hl3 : (rs ++ [((l1 : Int), t)]).length = N1 + 1 := by rw [List.length_append, HN1.out]; rfl
    have ho3 : X2.ownsRow B 52 18 (.slice va (N1 + 1) vc) (rs ++ [((l1 : Int), t)]).length (flatR (rs ++ [((l1 : Int), t)])) := by
      rw [flatR_app, hl3]
      simpa [flatR] using ho2
    obtain ⟨hp3, hg3⟩ := HP1.out.push hF2 ho3 f3 hbZ (fun r hr => by
      rcases List.mem_append.1 hr with h | h
      · exact .inl h
      · rw [List.mem_singleton.1 h]; exact .inr HX1.out.2.1)
    have HAB : Hid ((rs ++ [((l1 : Int), t)]).map absR = (pushB S t.abs).rows ∧ N1 + 1 = S.rows.length + 1) := by
      refine ⟨?_, by rw [← HN1.out, rs_len2 HW.out.1]⟩
      rw [List.map_append, HW.out.1, HL1.out]
      rfl
    have HP3 : Hid (RP (X2.setCell ⟨c, 0, none⟩ (.slice va (N1 + 1) vc)) B c (.slice va (N1 + 1) vc) nv S.lim pa pcap pf used l1 S.top (rs ++ [((l1 : Int), t)]) S.notes) := hp3
    have HG3 : Hid (Gm B pR false W (X2.setCell ⟨c, 0, none⟩ (.slice va (N1 + 1) vc))) := HG1.out.trans hg3
    clear hl3 ho3 hp3 hg3 hF2 hcn htn hbX f3 hbZ hS ho2 hg2 hl2 HP1 HG1 HX1 HIE LC HCO HNL HRB hYs hF HN1
    generalize N1 + 1 = N2 at *
    generalize X2.setCell ⟨c, 0, none⟩ (.slice va N2 vc) = w4 at *
    go_upto_region 17 with fail
    have hF : Fr [] w4 w4.drew := (Fr.refl _ _).drew
    have hS : w4.drew.cell? ⟨c, 0, none⟩ = some (.slice va N2 vc) := hF.cellNew HP3.out.blk (by simp) rfl
    have k6 : w4.drew.cell? ⟨c, 6, none⟩ = some (.int .i64 S.top) := hF.cellNew HP3.out.blk (by simp) rfl
    have z6 : w4.drew.frozen? ⟨c, 6, none⟩ = false := hF.frzNew HP3.out.blk (by simp)
    have hbY := (hF.block _ (Array.getElem?_eq_some_iff.1 HP3.out.blk).1 (by simp)).trans HP3.out.blk
    refine reg_in (fun w' => w'.cell? ⟨c, 0, none⟩ = some (.slice va N2 vc)) ?_
    generalize w4.drew = Y at *
    refine tk 0 (some 99) (.pointer (some ⟨c, 0, none⟩)) rfl rfl (Or.inl ⟨rfl, fun wq hSq => by first | rfl | go_simp⟩) (by decide +kernel) hS ?_
    simp only [Act.put, List.setIfInBounds_toArray, List.set_cons_zero, List.set_cons_succ]
    refine tk 1 (some 100) (.pointer (some ⟨c, 0, none⟩)) rfl rfl (Or.inl ⟨rfl, fun wq hSq => by first | rfl | go_simp⟩) (by decide +kernel) hS ?_
    simp only [Act.put, List.setIfInBounds_toArray, List.set_cons_zero, List.set_cons_succ]
    refine tk 2 (some 101) (.pointer (some ⟨c, 0, none⟩)) rfl rfl (Or.inl ⟨rfl, fun wq hSq => by first | rfl | go_simp⟩) (by decide +kernel) hS ?_
    simp only [Act.put, List.setIfInBounds_toArray, List.set_cons_zero, List.set_cons_succ]
    refine tk 3 (some 102) (.pointer (some ⟨c, 6, none⟩)) rfl rfl (Or.inl ⟨rfl, fun wq hSq => by first | rfl | go_simp⟩) (by decide +kernel) hS ?_
    simp only [Act.put, List.setIfInBounds_toArray, List.set_cons_zero, List.set_cons_succ]
    refine tk 5 (some 104) (.pointer (some ⟨c, 0, none⟩)) rfl rfl (Or.inl ⟨rfl, fun wq hSq => by first | rfl | go_simp⟩) (by decide +kernel) hS ?_
    simp only [Act.put, List.setIfInBounds_toArray, List.set_cons_zero, List.set_cons_succ]
    refine tk 6 (some 105) (.pointer (some ⟨c, 0, none⟩)) rfl rfl (Or.inl ⟨rfl, fun wq hSq => by first | rfl | go_simp⟩) (by decide +kernel) hS ?_
    simp only [Act.put, List.setIfInBounds_toArray, List.set_cons_zero, List.set_cons_succ]
    refine tk 7 (some 106) (.pointer (some ⟨c, 0, none⟩)) rfl rfl (Or.inl ⟨rfl, fun wq hSq => by first | rfl | go_simp⟩) (by decide +kernel) hS ?_
    simp only [Act.put, List.setIfInBounds_toArray, List.set_cons_zero, List.set_cons_succ]
    refine tk 8 (some 107) (.slice va N2 vc) rfl rfl (Or.inl ⟨rfl, fun wq hSq => by have q := hSq; go_simp⟩) (by decide +kernel) hS ?_
    simp only [Act.put, List.setIfInBounds_toArray, List.set_cons_zero, List.set_cons_succ]
    refine tk 9 (some 108) (.int .i64 (N2 : Int)) rfl rfl (Or.inl ⟨rfl, fun wq hSq => by go_simp⟩) (by decide +kernel) hS ?_
    simp only [Act.put, List.setIfInBounds_toArray, List.set_cons_zero, List.set_cons_succ]
    refine wpAnyH_ready (rs := [4]) (by decide +kernel) (by simp) ?_
    refine AllReadyH.cons rfl (fun K hK => ?_) AllReadyH.nil
    go_simp
    refine hK.out _ _ hS (fun _ => ?_)
    clear hK K
    try simp only [List.getElem_toArray, List.getElem_cons_succ, List.getElem_cons_zero, Act.put, List.setIfInBounds_toArray, List.set_cons_zero, List.set_cons_succ]
    refine tk 10 (some 109) (.int .i64 (max (S.top : Int) (N2 : Int))) rfl rfl (Or.inl ⟨rfl, fun wq hSq => by go_simp⟩) (by decide +kernel) hS ?_
    simp only [Act.put, List.setIfInBounds_toArray, List.set_cons_zero, List.set_cons_succ]
    refine tk 11 (some 110) (.pointer (some ⟨c, 0, none⟩)) rfl rfl (Or.inl ⟨rfl, fun wq hSq => by first | rfl | go_simp⟩) (by decide +kernel) hS ?_
    simp only [Act.put, List.setIfInBounds_toArray, List.set_cons_zero, List.set_cons_succ]
    refine tk 12 (some 111) (.pointer (some ⟨c, 6, none⟩)) rfl rfl (Or.inl ⟨rfl, fun wq hSq => by first | rfl | go_simp⟩) (by decide +kernel) hS ?_
    simp only [Act.put, List.setIfInBounds_toArray, List.set_cons_zero, List.set_cons_succ]
    refine wpAnyH_ready (rs := [13]) (by decide +kernel) (by simp) ?_
    refine AllReadyH.cons rfl (fun K hK => ?_) AllReadyH.nil
    go_simp
    have hf := set_blk (i := 6) (v := .int .i64 (max (S.top : Int) (N2 : Int))) hbY
    have f7 : Fr [c] Y (Y.setCell ⟨c, 6, none⟩ (.int .i64 (max (S.top : Int) (N2 : Int)))) := (Fr.refl _ _).setCell (.inl (by simp)) _
    have hS : (Y.setCell ⟨c, 6, none⟩ (.int .i64 (max (S.top : Int) (N2 : Int)))).cell? ⟨c, 0, none⟩ = some (.slice va N2 vc) := at_cells hf 0 rfl
    refine hK.out _ _ hS (fun _ => ?_)
    clear hK K
    try simp only [List.getElem_toArray, List.getElem_cons_succ, List.getElem_cons_zero, Act.put, List.setIfInBounds_toArray, List.set_cons_zero, List.set_cons_succ]
    refine wpAnyH_done (by decide +kernel) ?_ _
    refine plain_end ?_
    rw [max_cast] at *
    have hp5 := (HP3.out.fr0 hF).setNum (used' := used) (last' := l1) (top' := max S.top N2) f7 hf
    have HF : Hid (RA (Y.setCell ⟨c, 6, none⟩ (.int .i64 ((max S.top N2 : Nat) : Int))) B c (rs ++ [((l1 : Int), t)]) (pushB S t.abs) ∧ Gm B pR false W (Y.setCell ⟨c, 6, none⟩ (.int .i64 ((max S.top N2 : Nat) : Int)))) := by
      refine ⟨⟨⟨.slice va N2 vc, nv, pa, pcap, pf, used, ?_, HW.out.2.1, HW.out.2.2.1⟩, HAB.out.1⟩, (HG3.out.trans (Gm.ofFr0 hF)).trans ((HP3.out.fr0 hF).gmBlk f7)⟩
      show RP _ B c _ nv S.lim pa pcap pf used (S.last + 1) (max S.top (S.rows.length + 1)) _ S.notes
      rw [← HL1.out, ← HAB.out.2]
      exact hp5
    have k5 : (Y.setCell ⟨c, 6, none⟩ (.int .i64 ((max S.top N2 : Nat) : Int))).cell? ⟨c, 5, none⟩ = some (.int .i64 (l1 : Int)) := at_cells hf 5 rfl
    clear hp5 hf f7 hS k6 z6 hbY hF HP3 HG3 HAB
    generalize Y.setCell ⟨c, 6, none⟩ (.int .i64 ((max S.top N2 : Nat) : Int)) = w5 at *
    go_wp2
    go_ret
    exact ⟨by rw [← HL1.out]; rfl, ⟨_, HF.out.1⟩, HF.out.2⟩
  refine AllReadyH.cons rfl (fun K hK => ?_) AllReadyH.nil
  refine wp_slice1 45 52 18 224 (.tmp 94) (evl ((l1 : Int), t)).toArray _ rfl rfl cu45r ci52 (by decide) (by decide) (evl_size _) ?_
  have hbS := heap_alloc_new Y (.cells (evl ((l1 : Int), t)).toArray 52)
  have hYs : w3.heap.size ≤ Y.heap.size := hF.size
  have hF := hF.alloc (.cells (evl ((l1 : Int), t)).toArray 52)
  have hS : (Y.alloc (.cells (evl ((l1 : Int), t)).toArray 52)).cell? ⟨c, 5, none⟩ = some (.int .i64 (l1 : Int)) ∧ (Y.alloc (.cells (evl ((l1 : Int), t)).toArray 52)).heap[tb]? = some (.cells t.arr 35 (0, 0)) := ⟨((Fr.refl [] Y).alloc _).cell1 hS.1 (by simp), (((Fr.refl [] Y).alloc _).block _ (Array.getElem?_eq_some_iff.1 hS.2).1 (by simp)).trans hS.2⟩
  have hRB : ∀ (j : Nat) u, (evl ((l1 : Int), t))[j]? = some u → (Y.alloc (.cells (evl ((l1 : Int), t)).toArray 52)).cell? ((⟨Y.heap.size, 0, none⟩ : Addr).add j) = some u := fun j u hu => by have := range_block hbS j u (by simpa using hu); rw [Addr.add_mid]; exact this
  have HRB : Hid (∀ (j : Nat) u, (evl ((l1 : Int), t))[j]? = some u → (Y.alloc (.cells (evl ((l1 : Int), t)).toArray 52)).cell? ((⟨Y.heap.size, 0, none⟩ : Addr).add j) = some u) := hRB
  clear hRB hbS
  generalize Y.alloc (.cells (evl ((l1 : Int), t)).toArray 52) = Z at *
  generalize Y.heap.size = sb at *
  refine hK.out _ _ hS (fun _ => ?_)
  clear hK K
  try simp only [List.getElem_toArray, List.getElem_cons_succ, List.getElem_cons_zero, Act.put, List.setIfInBounds_toArray, List.set_cons_zero, List.set_cons_succ]
  refine wpAnyH_ready (rs := [4]) (by decide +kernel) (by simp) ?_
  refine AllReadyH.cons rfl (fun K hK => ?_) AllReadyH.nil
  have q := LC.out _ hF
  go_simp
  clear q
  refine hK.out _ _ hS (fun _ => ?_)
  clear hK K
  try simp only [List.getElem_toArray, List.getElem_cons_succ, List.getElem_cons_zero, Act.put, List.setIfInBounds_toArray, List.set_cons_zero, List.set_cons_succ]
  refine wpAnyH_ready (rs := [12]) (by decide +kernel) (by simp) ?_
  refine AllReadyH.cons rfl (fun K hK => ?_) AllReadyH.nil
  refine step_append_src rfl (.tmp 88) (.tmp 95) 45 rfl B 52 ie (ev (0, tr0)) 18 224 cu45r HIE.out.1 HIE.out.2.1 HIE.out.2.2.1 HIE.out.2.2.2 (by kernel_rfl) (by decide) (.slice oa N1 oc) N1 (flatR rs) rfl (by have := own_fr HP1.out.rows hF (by simp); rw [HN1.out] at this; exact this) (some ⟨sb, 0, none⟩) 1 1 (evl ((l1 : Int), t)) rfl (by rw [evl_len]) (fun e => by cases e) (fun ad e => by cases e; exact HRB.out) (fun u hu => flatR_one [((l1 : Int), t)] u (by simpa [flatR] using hu)) HNL.out.1 HNL.out.2 (Nat.le_trans HB.out hF.size) ?_
  intro v' X2 ho2 hg2 hl2
  obtain ⟨va, vc, rfl, _⟩ := own_slice ho2
  have hF2 : Fr (Value.slice oa N1 oc).ownBlock.toList w3 X2 := (hF.sub (by simp)).trans (Fr.ofGrown hg2)
  have hcn : c ∉ (Value.slice oa N1 oc).ownBlock.toList := fun hm => HCO.out.1 c (by simpa using hm) rfl
  have htn : tb ∉ (Value.slice oa N1 oc).ownBlock.toList := fun hm => HCO.out.2.1 tb (by simpa using hm) rfl
  have hS : X2.cell? ⟨c, 5, none⟩ = some (.int .i64 (l1 : Int)) ∧ X2.heap[tb]? = some (.cells t.arr 35 (0, 0)) := ⟨hF2.cellNew HP1.out.blk hcn rfl, (hF2.block _ (Array.getElem?_eq_some_iff.1 HX1.out.1).1 htn).trans HX1.out.1⟩
  have q0 : X2.cell? ⟨c, 0, none⟩ = some (.slice oa N1 oc) := hF2.cellNew HP1.out.blk hcn rfl
  have z0 : X2.frozen? ⟨c, 0, none⟩ = false := hF2.frzNew HP1.out.blk hcn
  have hbX := (hF2.block _ HCO.out.2.2 hcn).trans HP1.out.blk
  refine hK.out _ _ hS (fun _ => ?_)
  clear hK K
  try simp only [List.getElem_toArray, List.getElem_cons_succ, List.getElem_cons_zero, Act.put, List.setIfInBounds_toArray, List.set_cons_zero, List.set_cons_succ]
  refine tk 13 (some 97) (.pointer (some ⟨c, 0, none⟩)) rfl rfl (Or.inl ⟨rfl, fun wq hSq => by first | rfl | go_simp⟩) (by decide +kernel) hS ?_
  simp only [Act.put, List.setIfInBounds_toArray, List.set_cons_zero, List.set_cons_succ]
  refine tk 14 (some 98) (.pointer (some ⟨c, 0, none⟩)) rfl rfl (Or.inl ⟨rfl, fun wq hSq => by first | rfl | go_simp⟩) (by decide +kernel) hS ?_
  simp only [Act.put, List.setIfInBounds_toArray, List.set_cons_zero, List.set_cons_succ]
  refine wpAnyH_ready (rs := [15]) (by decide +kernel) (by simp) ?_
  refine AllReadyH.cons rfl (fun K hK => ?_) AllReadyH.nil
  go_simp
  clear q0 z0
  have f3 : Fr [c] X2 (X2.setCell ⟨c, 0, none⟩ (.slice va (N1 + 1) vc)) := (Fr.refl _ _).setCell (.inl (by simp)) _
  have hS : (X2.setCell ⟨c, 0, none⟩ (.slice va (N1 + 1) vc)).cell? ⟨c, 5, none⟩ = some (.int .i64 (l1 : Int)) ∧ (X2.setCell ⟨c, 0, none⟩ (.slice va (N1 + 1) vc)).heap[tb]? = some (.cells t.arr 35 (0, 0)) := ⟨at_cells (set_blk (i := 0) (v := .slice va (N1 + 1) vc) hbX) 5 rfl, (f3.block _ (Array.getElem?_eq_some_iff.1 hS.2).1 (by simpa using HX1.out.2.2)).trans hS.2⟩
  have hbZ := set_blk (i := 0) (v := .slice va (N1 + 1) vc) hbX
  refine hK.out _ _ hS (fun _ => ?_)
  clear hK K
  try simp only [List.getElem_toArray, List.getElem_cons_succ, List.getElem_cons_zero, Act.put, List.setIfInBounds_toArray, List.set_cons_zero, List.set_cons_succ]
  refine wpAnyH_done (by decide +kernel) ?_ _
  refine plain_end ?_
  have hl3 : (rs ++ [((l1 : Int), t)]).length = N1 + 1 := by rw [List.length_append, HN1.out]; rfl
  have ho3 : X2.ownsRow B 52 18 (.slice va (N1 + 1) vc) (rs ++ [((l1 : Int), t)]).length (flatR (rs ++ [((l1 : Int), t)])) := by
    rw [flatR_app, hl3]
    simpa [flatR] using ho2
  obtain ⟨hp3, hg3⟩ := HP1.out.push hF2 ho3 f3 hbZ (fun r hr => by
    rcases List.mem_append.1 hr with h | h
    · exact .inl h
    · rw [List.mem_singleton.1 h]; exact .inr HX1.out.2.1)
  have HAB : Hid ((rs ++ [((l1 : Int), t)]).map absR = (pushB S t.abs).rows ∧ N1 + 1 = S.rows.length + 1) := by
    refine ⟨?_, by rw [← HN1.out, rs_len2 HW.out.1]⟩
    rw [List.map_append, HW.out.1, HL1.out]
    rfl
  have HP3 : Hid (RP (X2.setCell ⟨c, 0, none⟩ (.slice va (N1 + 1) vc)) B c (.slice va (N1 + 1) vc) nv S.lim pa pcap pf used l1 S.top (rs ++ [((l1 : Int), t)]) S.notes) := hp3
  have HG3 : Hid (Gm B pR false W (X2.setCell ⟨c, 0, none⟩ (.slice va (N1 + 1) vc))) := HG1.out.trans hg3
  clear hl3 ho3 hp3 hg3 hF2 hcn htn hbX f3 hbZ hS ho2 hg2 hl2 HP1 HG1 HX1 HIE LC HCO HNL HRB hYs hF HN1
  generalize N1 + 1 = N2 at *
  generalize X2.setCell ⟨c, 0, none⟩ (.slice va N2 vc) = w4 at *
  go_upto_region 17 with fail
  have hF : Fr [] w4 w4.drew := (Fr.refl _ _).drew
  have hS : w4.drew.cell? ⟨c, 0, none⟩ = some (.slice va N2 vc) := hF.cellNew HP3.out.blk (by simp) rfl
  have k6 : w4.drew.cell? ⟨c, 6, none⟩ = some (.int .i64 S.top) := hF.cellNew HP3.out.blk (by simp) rfl
  have z6 : w4.drew.frozen? ⟨c, 6, none⟩ = false := hF.frzNew HP3.out.blk (by simp)
  have hbY := (hF.block _ (Array.getElem?_eq_some_iff.1 HP3.out.blk).1 (by simp)).trans HP3.out.blk
  refine reg_in (fun w' => w'.cell? ⟨c, 0, none⟩ = some (.slice va N2 vc)) ?_
  generalize w4.drew = Y at *
  refine tk 0 (some 99) (.pointer (some ⟨c, 0, none⟩)) rfl rfl (Or.inl ⟨rfl, fun wq hSq => by first | rfl | go_simp⟩) (by decide +kernel) hS ?_
  simp only [Act.put, List.setIfInBounds_toArray, List.set_cons_zero, List.set_cons_succ]
  refine tk 1 (some 100) (.pointer (some ⟨c, 0, none⟩)) rfl rfl (Or.inl ⟨rfl, fun wq hSq => by first | rfl | go_simp⟩) (by decide +kernel) hS ?_
  simp only [Act.put, List.setIfInBounds_toArray, List.set_cons_zero, List.set_cons_succ]
  refine tk 2 (some 101) (.pointer (some ⟨c, 0, none⟩)) rfl rfl (Or.inl ⟨rfl, fun wq hSq => by first | rfl | go_simp⟩) (by decide +kernel) hS ?_
  simp only [Act.put, List.setIfInBounds_toArray, List.set_cons_zero, List.set_cons_succ]
  refine tk 3 (some 102) (.pointer (some ⟨c, 6, none⟩)) rfl rfl (Or.inl ⟨rfl, fun wq hSq => by first | rfl | go_simp⟩) (by decide +kernel) hS ?_
  simp only [Act.put, List.setIfInBounds_toArray, List.set_cons_zero, List.set_cons_succ]
  refine tk 5 (some 104) (.pointer (some ⟨c, 0, none⟩)) rfl rfl (Or.inl ⟨rfl, fun wq hSq => by first | rfl | go_simp⟩) (by decide +kernel) hS ?_
  simp only [Act.put, List.setIfInBounds_toArray, List.set_cons_zero, List.set_cons_succ]
  refine tk 6 (some 105) (.pointer (some ⟨c, 0, none⟩)) rfl rfl (Or.inl ⟨rfl, fun wq hSq => by first | rfl | go_simp⟩) (by decide +kernel) hS ?_
  simp only [Act.put, List.setIfInBounds_toArray, List.set_cons_zero, List.set_cons_succ]
  refine tk 7 (some 106) (.pointer (some ⟨c, 0, none⟩)) rfl rfl (Or.inl ⟨rfl, fun wq hSq => by first | rfl | go_simp⟩) (by decide +kernel) hS ?_
  simp only [Act.put, List.setIfInBounds_toArray, List.set_cons_zero, List.set_cons_succ]
  refine tk 8 (some 107) (.slice va N2 vc) rfl rfl (Or.inl ⟨rfl, fun wq hSq => by have q := hSq; go_simp⟩) (by decide +kernel) hS ?_
  simp only [Act.put, List.setIfInBounds_toArray, List.set_cons_zero, List.set_cons_succ]
  refine tk 9 (some 108) (.int .i64 (N2 : Int)) rfl rfl (Or.inl ⟨rfl, fun wq hSq => by go_simp⟩) (by decide +kernel) hS ?_
  simp only [Act.put, List.setIfInBounds_toArray, List.set_cons_zero, List.set_cons_succ]
  refine wpAnyH_ready (rs := [4]) (by decide +kernel) (by simp) ?_
  refine AllReadyH.cons rfl (fun K hK => ?_) AllReadyH.nil
  go_simp
  refine hK.out _ _ hS (fun _ => ?_)
  clear hK K
  try simp only [List.getElem_toArray, List.getElem_cons_succ, List.getElem_cons_zero, Act.put, List.setIfInBounds_toArray, List.set_cons_zero, List.set_cons_succ]
  refine tk 10 (some 109) (.int .i64 (max (S.top : Int) (N2 : Int))) rfl rfl (Or.inl ⟨rfl, fun wq hSq => by go_simp⟩) (by decide +kernel) hS ?_
  simp only [Act.put, List.setIfInBounds_toArray, List.set_cons_zero, List.set_cons_succ]
  refine tk 11 (some 110) (.pointer (some ⟨c, 0, none⟩)) rfl rfl (Or.inl ⟨rfl, fun wq hSq => by first | rfl | go_simp⟩) (by decide +kernel) hS ?_
  simp only [Act.put, List.setIfInBounds_toArray, List.set_cons_zero, List.set_cons_succ]
  refine tk 12 (some 111) (.pointer (some ⟨c, 6, none⟩)) rfl rfl (Or.inl ⟨rfl, fun wq hSq => by first | rfl | go_simp⟩) (by decide +kernel) hS ?_
  simp only [Act.put, List.setIfInBounds_toArray, List.set_cons_zero, List.set_cons_succ]
  refine wpAnyH_ready (rs := [13]) (by decide +kernel) (by simp) ?_
  refine AllReadyH.cons rfl (fun K hK => ?_) AllReadyH.nil
  go_simp
  have hf := set_blk (i := 6) (v := .int .i64 (max (S.top : Int) (N2 : Int))) hbY
  have f7 : Fr [c] Y (Y.setCell ⟨c, 6, none⟩ (.int .i64 (max (S.top : Int) (N2 : Int)))) := (Fr.refl _ _).setCell (.inl (by simp)) _
  have hS : (Y.setCell ⟨c, 6, none⟩ (.int .i64 (max (S.top : Int) (N2 : Int)))).cell? ⟨c, 0, none⟩ = some (.slice va N2 vc) := at_cells hf 0 rfl
  refine hK.out _ _ hS (fun _ => ?_)
  clear hK K
  try simp only [List.getElem_toArray, List.getElem_cons_succ, List.getElem_cons_zero, Act.put, List.setIfInBounds_toArray, List.set_cons_zero, List.set_cons_succ]
  refine wpAnyH_done (by decide +kernel) ?_ _
  refine plain_end ?_
  rw [max_cast] at *
  have hp5 := (HP3.out.fr0 hF).setNum (used' := used) (last' := l1) (top' := max S.top N2) f7 hf
  have HF : Hid (RA (Y.setCell ⟨c, 6, none⟩ (.int .i64 ((max S.top N2 : Nat) : Int))) B c (rs ++ [((l1 : Int), t)]) (pushB S t.abs) ∧ Gm B pR false W (Y.setCell ⟨c, 6, none⟩ (.int .i64 ((max S.top N2 : Nat) : Int)))) := by
    refine ⟨⟨⟨.slice va N2 vc, nv, pa, pcap, pf, used, ?_, HW.out.2.1, HW.out.2.2.1⟩, HAB.out.1⟩, (HG3.out.trans (Gm.ofFr0 hF)).trans ((HP3.out.fr0 hF).gmBlk f7)⟩
    show RP _ B c _ nv S.lim pa pcap pf used (S.last + 1) (max S.top (S.rows.length + 1)) _ S.notes
    rw [← HL1.out, ← HAB.out.2]
    exact hp5
  have k5 : (Y.setCell ⟨c, 6, none⟩ (.int .i64 ((max S.top N2 : Nat) : Int))).cell? ⟨c, 5, none⟩ = some (.int .i64 (l1 : Int)) := at_cells hf 5 rfl
  clear hp5 hf f7 hS k6 z6 hbY hF HP3 HG3 HAB
  generalize Y.setCell ⟨c, 6, none⟩ (.int .i64 ((max S.top N2 : Nat) : Int)) = w5 at *
  go_wp2
  go_ret
  exact ⟨by rw [← HL1.out]; rfl, ⟨_, HF.out.1⟩, HF.out.2⟩
end Go.Proofs.Ytnhjplfdfbbihaa
