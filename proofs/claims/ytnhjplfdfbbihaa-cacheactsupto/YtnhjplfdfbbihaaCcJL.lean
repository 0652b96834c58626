/-
  A trace comes into the document's cache: the rows, how many; condition: the cache lies as told.
-/
import Derived.Test.YtnhjplfdfbbihaaCcEI
namespace Go.Proofs.Ytnhjplfdfbbihaa
open Go.RowKit Go.Shelf Go.Maps Go.ChangeShapes
set_option linter.unusedVariables false
set_option linter.unusedSimpArgs false
theorem RP.setNum {w w' : World} {B c : Nat} {rv nv : Value} {lim : Nat} {pa : Option Addr} {pcap : Nat} {pf : List Int} {used last top used' last' top' : Nat} {rs : List Rt} {ns : List Nt} (h : RP w B c rv nv lim pa pcap pf used last top rs ns) (f : Fr [c] w w')
    (hb : w'.heap[c]? = some (.cells #[rv, nv, .int .i64 lim, .slice pa pf.length pcap, .int .i64 used', .int .i64 last', .int .i64 top'] 48 (0, 0))) : RP w' B c rv nv lim pa pcap pf used' last' top' rs ns := by
  have hA := away_cells h.blk rfl h.cB
  exact ⟨hb, own_fr h.rows f (fun k hk hm => by
    have : k = c := by simpa using hm
    subst this
    exact own_ne h.rows h.blk (by decide) hk), own_fr h.notes f (fun k hk hm => by
    have : k = c := by simpa using hm
    subst this
    exact own_ne h.notes h.blk (by decide) hk), h.pick.fr f hA, fun r hr => (h.trs r hr).fr f hA, h.cB⟩
/-- A row comes behind the others. -/
theorem RP.push {w w1 w' : World} {B c : Nat} {rv nv rv' : Value} {lim : Nat} {pa : Option Addr} {pcap : Nat} {pf : List Int} {used last top : Nat} {rs rs' : List Rt} {ns : List Nt} (h : RP w B c rv nv lim pa pcap pf used last top rs ns) (f1 : Fr rv.ownBlock.toList w w1) (ho : w1.ownsRow B 52 18 rv' rs'.length (flatR rs')) (f2 : Fr [c] w1 w')
    (hb : w'.heap[c]? = some (.cells #[rv', nv, .int .i64 lim, .slice pa pf.length pcap, .int .i64 used, .int .i64 last, .int .i64 top] 48 (0, 0))) (ht : ∀ r ∈ rs', r ∈ rs ∨ TrOk w B r.2) : RP w' B c rv' nv lim pa pcap pf used last top rs' ns ∧ Gm B pR false w w' := by
  have hrb : ∀ k, k ∈ rv.ownBlock.toList → ∃ cur, w.heap[k]? = some (.cells cur 52 (0, 0)) ∧ B ≤ k := fun k hk => by
    have hk' : rv.ownBlock = some k := by simpa using hk
    rcases h.rows.2 with ⟨e1, _⟩ | ⟨g, cap, cur, e1, hbg, hg, _⟩
    · rw [e1] at hk'; cases hk'
    · rw [e1] at hk'
      cases hk'
      exact ⟨cur, hg, hbg⟩
  have hA1 : Away w B rv.ownBlock.toList := fun k hk => by
    obtain ⟨cur, h1, h2⟩ := hrb k hk
    exact ⟨h2, fun c t h => by rw [h1] at h; cases h; rfl⟩
  have hcn : c ∉ rv.ownBlock.toList := fun hm => by
    obtain ⟨cur, h1, _⟩ := hrb c hm
    exact absurd (ne_cells h.blk h1) (by decide)
  have hb1 := (f1.block _ (Array.getElem?_eq_some_iff.1 h.blk).1 hcn).trans h.blk
  have hA2 : Away w1 B [c] := away_cells hb1 rfl h.cB
  have hn1 : w1.ownsRow B 101 4 nv ns.length (flatN ns) := own_fr h.notes f1 (fun k hk hm => by
    obtain ⟨cur, h1, _⟩ := hrb k hm
    exact own_ne h.notes h1 (by decide) hk)
  refine ⟨⟨hb, own_fr ho f2 (fun k hk hm => by
    have : k = c := by simpa using hm
    subst this
    exact own_ne ho hb1 (by decide) hk), own_fr hn1 f2 (fun k hk hm => by
    have : k = c := by simpa using hm
    subst this
    exact own_ne hn1 hb1 (by decide) hk), (h.pick.fr f1 hA1).fr f2 hA2, fun r hr => ?_, h.cB⟩, (Gm.ofFr f1 (fun k hk => by
    obtain ⟨cur, h1, h2⟩ := hrb k hk
    exact .inr ⟨h2, .inl ⟨_, _, _, h1, rfl⟩⟩)).trans (Gm.ofFr f2 (fun k hm => by
    have : k = c := by simpa using hm
    subst this
    exact .inr ⟨h.cB, .inl ⟨_, _, _, hb1, rfl⟩⟩))⟩
  rcases ht r hr with hr | hr
  · exact ((h.trs r hr).fr f1 hA1).fr f2 hA2
  · exact (hr.fr f1 hA1).fr f2 hA2
set_option maxRecDepth 100000 in
theorem build52 (i : Int) (t : Tr) (w : World) : (Instr.build 52 #[(0, .int .i64 i), (1, .agg t.arr)]).run Try.prog w = .ok (.agg (evl (i, t)).toArray) w := by
  obtain ⟨⟨a, b, c, d, e, f, g, h, x, j⟩, fn, pc, ia, ic, ins, oa, oc, ops, la, lc, links, va, vc, virts, ba, bc, back⟩ := t
  exact run_build w 52 _ _ (by kernel_rfl)
theorem yields_build52 {ops : Array Oper} {S : World → Prop} {o : Oper} {a : Act} (hgd : o.guard = none) (x y : Operand) (ho : o.op = .build 52 #[(0, x), (1, y)]) (i : Int) (t : Tr) (hx : a.eval x = .int .i64 i) (hy : a.eval y = .agg t.arr) : YieldsIf Try.prog ops S o (.agg (evl (i, t)).toArray) a := by
  refine Or.inl ⟨by simp [Region.wanted, hgd], fun w _ => ?_⟩
  have e1 : (#[(0, x), (1, y)].map fun (i, x) => (i, a.eval x)) = #[(0, .int .i64 i), (1, .agg t.arr)] := by simp [hx, hy]
  unfold execOp
  simp only [ho, e1, Sem.run_bind, build52, Result.andThen_ok, Sem.run_pure]
set_option maxRecDepth 100000 in
set_option maxHeartbeats 8000000 in
theorem put_rt {W : World} {B c n tb : Nat} {rs : List Rt} {S : Bk} {t : Tr} (h : RA W B c rs S) (ho : Ok S n) (hn : n ≤ 1048576) (hBW : B ≤ W.heap.size) (hx : W.heap[tb]? = some (.cells t.arr 35 (0, 0))) (ht : TrOk W B t) {u1 u2 u4 u5 u6 u7 u8 u9 u10 u11 u12 u13 u14 u15 u16 u17 u18 u19 u20 u21 u22 u23 u24 u25 u26 u27 u28 u29 u30 u31 u32 u33 u34 u35 u36 u37 u38 u39 u40 u41 u42 u43 u44 u45 u46 u47 u48 u49 u50 u51 u52 u53 u54 u55 u56 u57 u58 u59 u60 u61 u62 u63 u64 u65 u66 u67 u68 u69 u70 u71 u72 u73 u74 u75 u76 u77 u78 u79 u80 u81 u82 u83 u84 u85 u86 u87 u88 u89 u90 u91 u92 u93 u94 u95 u96 u97 u98 u99 u100 u101 u102 u103 u104 u105 u106 u107 u108 u109 u110 u111 u112 u113 u114 u115 : Value} :
    (sub Try.f23 [1, 1, 1, 1]).wp Try.prog (bodyPost Try.prog Try.f23 fun e w' => e = .returned (.int .i64 ((S.last + 1 : Nat) : Int)) ∧ (∃ rs', RA w' B c rs' (pushB S t.abs)) ∧ Gm B pR false W w') { tmps := #[.pointer (some ⟨c, 0, none⟩), u1, u2, .pointer (some ⟨tb, 0, none⟩), u4, u5, u6, u7, u8, u9, u10, u11, u12, u13, u14, u15, u16, u17, u18, u19, u20, u21, u22, u23, u24, u25, u26, u27, u28, u29, u30, u31, u32, u33, u34, u35, u36, u37, u38, u39, u40, u41, u42, u43, u44, u45, u46, u47, u48, u49, u50, u51, u52, u53, u54, u55, u56, u57, u58, u59, u60, u61, u62, u63, u64, u65, u66, u67, u68, u69, u70, u71, u72, u73, u74, u75, u76, u77, u78, u79, u80, u81, u82, u83, u84, u85, u86, u87, u88, u89, u90, u91, u92, u93, u94, u95, u96, u97, u98, u99, u100, u101, u102, u103, u104, u105, u106, u107, u108, u109, u110, u111, u112, u113, u114, u115], defers := [] } W := by
  obtain ⟨rv, nv, pa, pcap, pf, used, hp, hpk, hus⟩ := h.ex
  have habs := h.abs
  have hlast : S.last ≤ n := ho.last
  have hlen := rs_len habs ho
  obtain ⟨z, hz⟩ : ∃ z : Int, z = S.last := ⟨_, rfl⟩
  have k5 : W.cell? ⟨c, 5, none⟩ = some (.int .i64 z) := by rw [hz]; exact at_cells hp.blk 5 rfl
  have z5 : W.frozen? ⟨c, 5, none⟩ = false := frz hp.blk
  have f1 : Fr [c] W (W.setCell ⟨c, 5, none⟩ (.int .i64 ((S.last + 1 : Nat) : Int))) := (Fr.refl _ _).setCell (.inl (by simp)) _
  have hb1 := set_blk (i := 5) (v := .int .i64 ((S.last + 1 : Nat) : Int)) hp.blk
  have hp1 := hp.setNum (used' := used) (last' := S.last + 1) (top' := S.top) f1 hb1
  have hg1 := hp.gmBlk f1
  have htc : tb ≠ c := by rintro rfl; exact absurd (ne_cells hp.blk hx) (by decide)
  have hx1 := (f1.block _ (Array.getElem?_eq_some_iff.1 hx).1 (by simpa using htc)).trans hx
  have ht1 := ht.fr f1 (away_cells hp.blk rfl hp.cB)
  have HW : Hid (rs.map absR = S.rows ∧ pf.drop used = S.pk ∧ used ≤ pf.length ∧ rs.length ≤ 1000) := ⟨habs, hpk, hus, hlen⟩
  have HB : Hid (B ≤ (W.setCell ⟨c, 5, none⟩ (.int .i64 ((S.last + 1 : Nat) : Int))).heap.size) := Nat.le_trans hBW f1.size
  have HG1 : Hid (Gm B pR false W (W.setCell ⟨c, 5, none⟩ (.int .i64 ((S.last + 1 : Nat) : Int)))) := hg1
  have hz0 : 0 ≤ z := by omega
  have hz1 : z + 1 ≤ 1000000000000000 := by omega
  have HZ : Hid (z = S.last) := hz
  have HP1 : Hid (RP (W.setCell ⟨c, 5, none⟩ (.int .i64 ((S.last + 1 : Nat) : Int))) B c rv nv S.lim pa pcap pf used (S.last + 1) S.top rs S.notes) := hp1
  have HX1 : Hid ((W.setCell ⟨c, 5, none⟩ (.int .i64 ((S.last + 1 : Nat) : Int))).heap[tb]? = some (.cells t.arr 35 (0, 0)) ∧ TrOk (W.setCell ⟨c, 5, none⟩ (.int .i64 ((S.last + 1 : Nat) : Int))) B t ∧ tb ≠ c) := ⟨hx1, ht1, htc⟩
  clear h hp habs ho hn hlast hlen hz f1 hb1 hp1 hg1 hx hx1 ht ht1 htc hBW hpk hus
  dsimp only [sub, nav, kid, Try.f23, Option.getD, if_true, if_false]
  go_upto_region 16 with fail
  rw [show (z + 1) = ((S.last + 1 : Nat) : Int) by rw [HZ.out]; rfl]
  clear k5 z5 hz0 hz1
  generalize W.setCell ⟨c, 5, none⟩ (.int .i64 ((S.last + 1 : Nat) : Int)) = w3 at *
  obtain ⟨l1, hl1⟩ : ∃ l1, l1 = S.last + 1 := ⟨_, rfl⟩
  rw [← hl1] at HP1 ⊢
  have HL1 : Hid (l1 = S.last + 1) := hl1
  clear hl1
  obtain ⟨oa, oc, rfl, _⟩ := own_slice HP1.out.rows
  obtain ⟨N1, hN1⟩ : ∃ N1, rs.length = N1 := ⟨_, rfl⟩
  rw [hN1] at HP1
  have HN1 : Hid (rs.length = N1) := hN1
  clear hN1
  obtain ⟨ie, i1, i2, i3, i4⟩ := info_parts ci52
  have HIE : Hid (Try.prog.info? 52 = some ie ∧ ie.zero = some (ev (0, tr0)) ∧ ie.size = 18 ∧ ie.bytes = 224) := ⟨i1, i2, i3, i4⟩
  have LC : Hid (∀ w', Fr [] w3 w' → w'.cell? ⟨c, 0, none⟩ = some (.slice oa N1 oc)) := fun w' f => f.cellNew HP1.out.blk (by simp) rfl
  have HCO : Hid ((∀ k, (Value.slice oa N1 oc).ownBlock = some k → k ≠ c) ∧ (∀ k, (Value.slice oa N1 oc).ownBlock = some k → k ≠ tb) ∧ c < w3.heap.size) := ⟨fun k hk e => by subst e; exact own_ne HP1.out.rows HP1.out.blk (by decide) hk, fun k hk e => by subst e; exact own_ne HP1.out.rows HX1.out.1 (by decide) hk, (Array.getElem?_eq_some_iff.1 HP1.out.blk).1⟩
  have HNL : Hid (N1 + 1 ≤ maxLen ∧ (N1 + 1) * 224 ≤ 140737488355328) := by
    have := HW.out.2.2.2
    rw [← HN1.out]
    refine ⟨?_, ?_⟩
    · simp only [maxLen]; omega
    · omega
  have hF : Fr [] w3 w3.drew := (Fr.refl _ _).drew
  have hS : w3.drew.cell? ⟨c, 5, none⟩ = some (.int .i64 (l1 : Int)) ∧ w3.drew.heap[tb]? = some (.cells t.arr 35 (0, 0)) := ⟨hF.cellNew HP1.out.blk (by simp) rfl, (hF.block _ (Array.getElem?_eq_some_iff.1 HX1.out.1).1 (by simp)).trans HX1.out.1⟩
  clear i1 i2 i3 i4
  refine reg_in (fun w' => w'.cell? ⟨c, 5, none⟩ = some (.int .i64 (l1 : Int)) ∧ w'.heap[tb]? = some (.cells t.arr 35 (0, 0))) ?_
  generalize w3.drew = Y at *
  refine tk 0 (some 84) (.pointer (some ⟨c, 0, none⟩)) rfl rfl (Or.inl ⟨rfl, fun wq hSq => by first | rfl | go_simp⟩) (by decide +kernel) hS ?_
  simp only [Act.put, List.setIfInBounds_toArray, List.set_cons_zero, List.set_cons_succ]
  refine tk 1 (some 85) (.pointer (some ⟨c, 0, none⟩)) rfl rfl (Or.inl ⟨rfl, fun wq hSq => by first | rfl | go_simp⟩) (by decide +kernel) hS ?_
  simp only [Act.put, List.setIfInBounds_toArray, List.set_cons_zero, List.set_cons_succ]
  refine tk 2 (some 86) (.pointer (some ⟨c, 0, none⟩)) rfl rfl (Or.inl ⟨rfl, fun wq hSq => by first | rfl | go_simp⟩) (by decide +kernel) hS ?_
  simp only [Act.put, List.setIfInBounds_toArray, List.set_cons_zero, List.set_cons_succ]
  refine tk 3 (some 87) (.pointer (some ⟨c, 0, none⟩)) rfl rfl (Or.inl ⟨rfl, fun wq hSq => by first | rfl | go_simp⟩) (by decide +kernel) hS ?_
  simp only [Act.put, List.setIfInBounds_toArray, List.set_cons_zero, List.set_cons_succ]
  refine tk 5 (some 89) (.pointer (some ⟨c, 0, none⟩)) rfl rfl (Or.inl ⟨rfl, fun wq hSq => by first | rfl | go_simp⟩) (by decide +kernel) hS ?_
  simp only [Act.put, List.setIfInBounds_toArray, List.set_cons_zero, List.set_cons_succ]
  refine tk 6 (some 90) (.pointer (some ⟨c, 0, none⟩)) rfl rfl (Or.inl ⟨rfl, fun wq hSq => by first | rfl | go_simp⟩) (by decide +kernel) hS ?_
  simp only [Act.put, List.setIfInBounds_toArray, List.set_cons_zero, List.set_cons_succ]
  refine tk 7 (some 91) (.pointer (some ⟨c, 5, none⟩)) rfl rfl (Or.inl ⟨rfl, fun wq hSq => by first | rfl | go_simp⟩) (by decide +kernel) hS ?_
  simp only [Act.put, List.setIfInBounds_toArray, List.set_cons_zero, List.set_cons_succ]
  refine tk 8 (some 92) (.int .i64 (l1 : Int)) rfl rfl (Or.inl ⟨rfl, fun wq hSq => by have q := hSq.1; go_simp⟩) (by decide +kernel) hS ?_
  simp only [Act.put, List.setIfInBounds_toArray, List.set_cons_zero, List.set_cons_succ]
  refine tk 9 (some 93) (.agg t.arr) rfl rfl ?_ (by decide +kernel) hS ?_
  · exact yieldsIf_load_mid rfl 35 (.tmp 3) rfl tb 0 rfl t.cl _ (fun wq hSq => Tr.range hSq.2) Try.underlying35 rfl (by rw [Tr.cl_len]; exact info35)
  simp only [Act.put, List.setIfInBounds_toArray, List.set_cons_zero, List.set_cons_succ]
  refine tk 10 (some 94) (.agg (evl ((l1 : Int), t)).toArray) rfl rfl ?_ (by decide +kernel) hS ?_
  · exact yields_build52 rfl (.tmp 92) (.tmp 93) rfl (l1 : Int) t rfl rfl
  simp only [Act.put, List.setIfInBounds_toArray, List.set_cons_zero, List.set_cons_succ]
  refine wpAnyH_ready (rs := [4, 11]) (by decide +kernel) (by simp) ?_
  refine AllReadyH.cons rfl (fun K hK => ?_) ?_
  · skip
    have q := LC.out _ hF
    go_simp
    clear q
    refine hK.out _ _ hS (fun _ => ?_)
    clear hK K
    try simp only [List.getElem_toArray, List.getElem_cons_succ, List.getElem_cons_zero, Act.put, List.setIfInBounds_toArray, List.set_cons_zero, List.set_cons_succ]
    refine wpAnyH_ready (rs := [11]) (by decide +kernel) (by simp) ?_
    refine AllReadyH.cons rfl (fun K hK => ?_) AllReadyH.nil
    refine wp_slice1 45 52 18 224 (.tmp 94) (evl ((l1 : Int), t)).toArray _ rfl rfl cu45r ci52 (by decide) (by decide) (evl_size _) ?_
    have hbS := heap_alloc_new Y (.cells (evl ((l1 : Int), t)).toArray 52)
    have hYs : w3.heap.size ≤ Y.heap.size := hF.size
    have hF := hF.alloc (.cells (evl ((l1 : Int), t)).toArray 52)
    have hS : (Y.alloc (.cells (evl ((l1 : Int), t)).toArray 52)).cell? ⟨c, 5, none⟩ = some (.int .i64 (l1 : Int)) ∧ (Y.alloc (.cells (evl ((l1 : Int), t)).toArray 52)).heap[tb]? = some (.cells t.arr 35 (0, 0)) := ⟨((Fr.refl [] Y).alloc _).cell1 hS.1 (by simp), (((Fr.refl [] Y).alloc _).block _ (Array.getElem?_eq_some_iff.1 hS.2).1 (by simp)).trans hS.2⟩
    have hRB : ∀ (j : Nat) u, (evl ((l1 : Int), t))[j]? = some u → (Y.alloc (.cells (evl ((l1 : Int), t)).toArray 52)).cell? ((⟨Y.heap.size, 0, none⟩ : Addr).add j) = some u := fun j u hu => by have := range_block hbS j u (by simpa using hu); rw [Addr.add_mid]; exact this
    have HRB : Hid (∀ (j : Nat) u, (evl ((l1 : Int), t))[j]? = some u → (Y.alloc (.cells (evl ((l1 : Int), t)).toArray 52)).cell? ((⟨Y.heap.size, 0, none⟩ : Addr).add j) = some u) := hRB
    clear hRB hbS
    generalize Y.alloc (.cells (evl ((l1 : Int), t)).toArray 52) = Z at *
    generalize Y.heap.size = sb at *
    refine hK.out _ _ hS (fun _ => ?_)
    clear hK K
    try simp only [List.getElem_toArray, List.getElem_cons_succ, List.getElem_cons_zero, Act.put, List.setIfInBounds_toArray, List.set_cons_zero, List.set_cons_succ]
    refine wpAnyH_ready (rs := [12]) (by decide +kernel) (by simp) ?_
    refine AllReadyH.cons rfl (fun K hK => ?_) AllReadyH.nil
    refine step_append_src rfl (.tmp 88) (.tmp 95) 45 rfl B 52 ie (ev (0, tr0)) 18 224 cu45r HIE.out.1 HIE.out.2.1 HIE.out.2.2.1 HIE.out.2.2.2 (by kernel_rfl) (by decide) (.slice oa N1 oc) N1 (flatR rs) rfl (by have := own_fr HP1.out.rows hF (by simp); rw [HN1.out] at this; exact this) (some ⟨sb, 0, none⟩) 1 1 (evl ((l1 : Int), t)) rfl (by rw [evl_len]) (fun e => by cases e) (fun ad e => by cases e; exact HRB.out) (fun u hu => flatR_one [((l1 : Int), t)] u (by simpa [flatR] using hu)) HNL.out.1 HNL.out.2 (Nat.le_trans HB.out hF.size) ?_
    intro v' X2 ho2 hg2 hl2
    obtain ⟨va, vc, rfl, _⟩ := own_slice ho2
    have hF2 : Fr (Value.slice oa N1 oc).ownBlock.toList w3 X2 := (hF.sub (by simp)).trans (Fr.ofGrown hg2)
    have hcn : c ∉ (Value.slice oa N1 oc).ownBlock.toList := fun hm => HCO.out.1 c (by simpa using hm) rfl
    have htn : tb ∉ (Value.slice oa N1 oc).ownBlock.toList := fun hm => HCO.out.2.1 tb (by simpa using hm) rfl
    have hS : X2.cell? ⟨c, 5, none⟩ = some (.int .i64 (l1 : Int)) ∧ X2.heap[tb]? = some (.cells t.arr 35 (0, 0)) := ⟨hF2.cellNew HP1.out.blk hcn rfl, (hF2.block _ (Array.getElem?_eq_some_iff.1 HX1.out.1).1 htn).trans HX1.out.1⟩
    have q0 : X2.cell? ⟨c, 0, none⟩ = some (.slice oa N1 oc) := hF2.cellNew HP1.out.blk hcn rfl
    have z0 : X2.frozen? ⟨c, 0, none⟩ = false := hF2.frzNew HP1.out.blk hcn
    have hbX := (hF2.block _ HCO.out.2.2 hcn).trans HP1.out.blk
    refine hK.out _ _ hS (fun _ => ?_)
    clear hK K
    try simp only [List.getElem_toArray, List.getElem_cons_succ, List.getElem_cons_zero, Act.put, List.setIfInBounds_toArray, List.set_cons_zero, List.set_cons_succ]
    refine tk 13 (some 97) (.pointer (some ⟨c, 0, none⟩)) rfl rfl (Or.inl ⟨rfl, fun wq hSq => by first | rfl | go_simp⟩) (by decide +kernel) hS ?_
    simp only [Act.put, List.setIfInBounds_toArray, List.set_cons_zero, List.set_cons_succ]
    refine tk 14 (some 98) (.pointer (some ⟨c, 0, none⟩)) rfl rfl (Or.inl ⟨rfl, fun wq hSq => by first | rfl | go_simp⟩) (by decide +kernel) hS ?_
    simp only [Act.put, List.setIfInBounds_toArray, List.set_cons_zero, List.set_cons_succ]
    refine wpAnyH_ready (rs := [15]) (by decide +kernel) (by simp) ?_
    refine AllReadyH.cons rfl (fun K hK => ?_) AllReadyH.nil
    go_simp
    clear q0 z0
    have f3 : Fr [c] X2 (X2.setCell ⟨c, 0, none⟩ (.slice va (N1 + 1) vc)) := (Fr.refl _ _).setCell (.inl (by simp)) _
    have hS : (X2.setCell ⟨c, 0, none⟩ (.slice va (N1 + 1) vc)).cell? ⟨c, 5, none⟩ = some (.int .i64 (l1 : Int)) ∧ (X2.setCell ⟨c, 0, none⟩ (.slice va (N1 + 1) vc)).heap[tb]? = some (.cells t.arr 35 (0, 0)) := ⟨at_cells (set_blk (i := 0) (v := .slice va (N1 + 1) vc) hbX) 5 rfl, (f3.block _ (Array.getElem?_eq_some_iff.1 hS.2).1 (by simpa using HX1.out.2.2)).trans hS.2⟩
    have hbZ := set_blk (i := 0) (v := .slice va (N1 + 1) vc) hbX
    refine hK.out _ _ hS (fun _ => ?_)
    clear hK K
    try simp only [List.getElem_toArray, List.getElem_cons_succ, List.getElem_cons_zero, Act.put, List.setIfInBounds_toArray, List.set_cons_zero, List.set_cons_succ]
    refine wpAnyH_done (by decide +kernel) ?_ _
    refine plain_end ?_
    have hl3 : (rs ++ [((l1 : Int), t)]).length = N1 + 1 := by rw [List.length_append, HN1.out]; rfl
    have ho3 : X2.ownsRow B 52 18 (.slice va (N1 + 1) vc) (rs ++ [((l1 : Int), t)]).length (flatR (rs ++ [((l1 : Int), t)])) := by
      rw [flatR_app, hl3]
      simpa [flatR] using ho2
    obtain ⟨hp3, hg3⟩ := HP1.out.push hF2 ho3 f3 hbZ (fun r hr => by
      rcases List.mem_append.1 hr with h | h
      · exact .inl h
      · rw [List.mem_singleton.1 h]; exact .inr HX1.out.2.1)
    have HAB : Hid ((rs ++ [((l1 : Int), t)]).map absR = (pushB S t.abs).rows ∧ N1 + 1 = S.rows.length + 1) := by
      refine ⟨?_, by rw [← HN1.out, rs_len2 HW.out.1]⟩
      rw [List.map_append, HW.out.1, HL1.out]
      rfl
    have HP3 : Hid (RP (X2.setCell ⟨c, 0, none⟩ (.slice va (N1 + 1) vc)) B c (.slice va (N1 + 1) vc) nv S.lim pa pcap pf used l1 S.top (rs ++ [((l1 : Int), t)]) S.notes) := hp3
    have HG3 : Hid (Gm B pR false W (X2.setCell ⟨c, 0, none⟩ (.slice va (N1 + 1) vc))) := HG1.out.trans hg3
    clear hl3 ho3 hp3 hg3 hF2 hcn htn hbX f3 hbZ hS ho2 hg2 hl2 HP1 HG1 HX1 HIE LC HCO HNL HRB hYs hF HN1
    generalize N1 + 1 = N2 at *
    generalize X2.setCell ⟨c, 0, none⟩ (.slice va N2 vc) = w4 at *
    go_upto_region 17 with fail
    have hF : Fr [] w4 w4.drew := (Fr.refl _ _).drew
    have hS : w4.drew.cell? ⟨c, 0, none⟩ = some (.slice va N2 vc) := hF.cellNew HP3.out.blk (by simp) rfl
    have k6 : w4.drew.cell? ⟨c, 6, none⟩ = some (.int .i64 S.top) := hF.cellNew HP3.out.blk (by simp) rfl
    have z6 : w4.drew.frozen? ⟨c, 6, none⟩ = false := hF.frzNew HP3.out.blk (by simp)
    have hbY := (hF.block _ (Array.getElem?_eq_some_iff.1 HP3.out.blk).1 (by simp)).trans HP3.out.blk
    refine reg_in (fun w' => w'.cell? ⟨c, 0, none⟩ = some (.slice va N2 vc)) ?_
    generalize w4.drew = Y at *
    refine tk 0 (some 99) (.pointer (some ⟨c, 0, none⟩)) rfl rfl (Or.inl ⟨rfl, fun wq hSq => by first | rfl | go_simp⟩) (by decide +kernel) hS ?_
    simp only [Act.put, List.setIfInBounds_toArray, List.set_cons_zero, List.set_cons_succ]
    refine tk 1 (some 100) (.pointer (some ⟨c, 0, none⟩)) rfl rfl (Or.inl ⟨rfl, fun wq hSq => by first | rfl | go_simp⟩) (by decide +kernel) hS ?_
    simp only [Act.put, List.setIfInBounds_toArray, List.set_cons_zero, List.set_cons_succ]
    refine tk 2 (some 101) (.pointer (some ⟨c, 0, none⟩)) rfl rfl (Or.inl ⟨rfl, fun wq hSq => by first | rfl | go_simp⟩) (by decide +kernel) hS ?_
    simp only [Act.put, List.setIfInBounds_toArray, List.set_cons_zero, List.set_cons_succ]
    refine tk 3 (some 102) (.pointer (some ⟨c, 6, none⟩)) rfl rfl (Or.inl ⟨rfl, fun wq hSq => by first | rfl | go_simp⟩) (by decide +kernel) hS ?_
    simp only [Act.put, List.setIfInBounds_toArray, List.set_cons_zero, List.set_cons_succ]
    refine tk 5 (some 104) (.pointer (some ⟨c, 0, none⟩)) rfl rfl (Or.inl ⟨rfl, fun wq hSq => by first | rfl | go_simp⟩) (by decide +kernel) hS ?_
    simp only [Act.put, List.setIfInBounds_toArray, List.set_cons_zero, List.set_cons_succ]
    refine tk 6 (some 105) (.pointer (some ⟨c, 0, none⟩)) rfl rfl (Or.inl ⟨rfl, fun wq hSq => by first | rfl | go_simp⟩) (by decide +kernel) hS ?_
    simp only [Act.put, List.setIfInBounds_toArray, List.set_cons_zero, List.set_cons_succ]
    refine tk 7 (some 106) (.pointer (some ⟨c, 0, none⟩)) rfl rfl (Or.inl ⟨rfl, fun wq hSq => by first | rfl | go_simp⟩) (by decide +kernel) hS ?_
    simp only [Act.put, List.setIfInBounds_toArray, List.set_cons_zero, List.set_cons_succ]
    refine tk 8 (some 107) (.slice va N2 vc) rfl rfl (Or.inl ⟨rfl, fun wq hSq => by have q := hSq; go_simp⟩) (by decide +kernel) hS ?_
    simp only [Act.put, List.setIfInBounds_toArray, List.set_cons_zero, List.set_cons_succ]
    refine tk 9 (some 108) (.int .i64 (N2 : Int)) rfl rfl (Or.inl ⟨rfl, fun wq hSq => by go_simp⟩) (by decide +kernel) hS ?_
    simp only [Act.put, List.setIfInBounds_toArray, List.set_cons_zero, List.set_cons_succ]
    refine wpAnyH_ready (rs := [4]) (by decide +kernel) (by simp) ?_
    refine AllReadyH.cons rfl (fun K hK => ?_) AllReadyH.nil
    go_simp
    refine hK.out _ _ hS (fun _ => ?_)
    clear hK K
    try simp only [List.getElem_toArray, List.getElem_cons_succ, List.getElem_cons_zero, Act.put, List.setIfInBounds_toArray, List.set_cons_zero, List.set_cons_succ]
    refine tk 10 (some 109) (.int .i64 (max (S.top : Int) (N2 : Int))) rfl rfl (Or.inl ⟨rfl, fun wq hSq => by go_simp⟩) (by decide +kernel) hS ?_
    simp only [Act.put, List.setIfInBounds_toArray, List.set_cons_zero, List.set_cons_succ]
    refine tk 11 (some 110) (.pointer (some ⟨c, 0, none⟩)) rfl rfl (Or.inl ⟨rfl, fun wq hSq => by first | rfl | go_simp⟩) (by decide +kernel) hS ?_
    simp only [Act.put, List.setIfInBounds_toArray, List.set_cons_zero, List.set_cons_succ]
    refine tk 12 (some 111) (.pointer (some ⟨c, 6, none⟩)) rfl rfl (Or.inl ⟨rfl, fun wq hSq => by first | rfl | go_simp⟩) (by decide +kernel) hS ?_
    simp only [Act.put, List.setIfInBounds_toArray, List.set_cons_zero, List.set_cons_succ]
    refine wpAnyH_ready (rs := [13]) (by decide +kernel) (by simp) ?_
    refine AllReadyH.cons rfl (fun K hK => ?_) AllReadyH.nil
    go_simp
    have hf := set_blk (i := 6) (v := .int .i64 (max (S.top : Int) (N2 : Int))) hbY
    have f7 : Fr [c] Y (Y.setCell ⟨c, 6, none⟩ (.int .i64 (max (S.top : Int) (N2 : Int)))) := (Fr.refl _ _).setCell (.inl (by simp)) _
    have hS : (Y.setCell ⟨c, 6, none⟩ (.int .i64 (max (S.top : Int) (N2 : Int)))).cell? ⟨c, 0, none⟩ = some (.slice va N2 vc) := at_cells hf 0 rfl
    refine hK.out _ _ hS (fun _ => ?_)
    clear hK K
    try simp only [List.getElem_toArray, List.getElem_cons_succ, List.getElem_cons_zero, Act.put, List.setIfInBounds_toArray, List.set_cons_zero, List.set_cons_succ]
    refine wpAnyH_done (by decide +kernel) ?_ _
    refine plain_end ?_
    rw [max_cast] at *
    have hp5 := (HP3.out.fr0 hF).setNum (used' := used) (last' := l1) (top' := max S.top N2) f7 hf
    have HF : Hid (RA (Y.setCell ⟨c, 6, none⟩ (.int .i64 ((max S.top N2 : Nat) : Int))) B c (rs ++ [((l1 : Int), t)]) (pushB S t.abs) ∧ Gm B pR false W (Y.setCell ⟨c, 6, none⟩ (.int .i64 ((max S.top N2 : Nat) : Int)))) := by
      refine ⟨⟨⟨.slice va N2 vc, nv, pa, pcap, pf, used, ?_, HW.out.2.1, HW.out.2.2.1⟩, HAB.out.1⟩, (HG3.out.trans (Gm.ofFr0 hF)).trans ((HP3.out.fr0 hF).gmBlk f7)⟩
      show RP _ B c _ nv S.lim pa pcap pf used (S.last + 1) (max S.top (S.rows.length + 1)) _ S.notes
      rw [← HL1.out, ← HAB.out.2]
      exact hp5
    have k5 : (Y.setCell ⟨c, 6, none⟩ (.int .i64 ((max S.top N2 : Nat) : Int))).cell? ⟨c, 5, none⟩ = some (.int .i64 (l1 : Int)) := at_cells hf 5 rfl
    clear hp5 hf f7 hS k6 z6 hbY hF HP3 HG3 HAB
    generalize Y.setCell ⟨c, 6, none⟩ (.int .i64 ((max S.top N2 : Nat) : Int)) = w5 at *
    go_wp2
    go_ret
    exact ⟨by rw [← HL1.out]; rfl, ⟨_, HF.out.1⟩, HF.out.2⟩
  refine AllReadyH.cons rfl (fun K hK => ?_) AllReadyH.nil
  refine wp_slice1 45 52 18 224 (.tmp 94) (evl ((l1 : Int), t)).toArray _ rfl rfl cu45r ci52 (by decide) (by decide) (evl_size _) ?_
  have hbS := heap_alloc_new Y (.cells (evl ((l1 : Int), t)).toArray 52)
  have hYs : w3.heap.size ≤ Y.heap.size := hF.size
  have hF := hF.alloc (.cells (evl ((l1 : Int), t)).toArray 52)
  have hS : (Y.alloc (.cells (evl ((l1 : Int), t)).toArray 52)).cell? ⟨c, 5, none⟩ = some (.int .i64 (l1 : Int)) ∧ (Y.alloc (.cells (evl ((l1 : Int), t)).toArray 52)).heap[tb]? = some (.cells t.arr 35 (0, 0)) := ⟨((Fr.refl [] Y).alloc _).cell1 hS.1 (by simp), (((Fr.refl [] Y).alloc _).block _ (Array.getElem?_eq_some_iff.1 hS.2).1 (by simp)).trans hS.2⟩
  have hRB : ∀ (j : Nat) u, (evl ((l1 : Int), t))[j]? = some u → (Y.alloc (.cells (evl ((l1 : Int), t)).toArray 52)).cell? ((⟨Y.heap.size, 0, none⟩ : Addr).add j) = some u := fun j u hu => by have := range_block hbS j u (by simpa using hu); rw [Addr.add_mid]; exact this
  have HRB : Hid (∀ (j : Nat) u, (evl ((l1 : Int), t))[j]? = some u → (Y.alloc (.cells (evl ((l1 : Int), t)).toArray 52)).cell? ((⟨Y.heap.size, 0, none⟩ : Addr).add j) = some u) := hRB
  clear hRB hbS
  generalize Y.alloc (.cells (evl ((l1 : Int), t)).toArray 52) = Z at *
  generalize Y.heap.size = sb at *
  refine hK.out _ _ hS (fun _ => ?_)
  clear hK K
  try simp only [List.getElem_toArray, List.getElem_cons_succ, List.getElem_cons_zero, Act.put, List.setIfInBounds_toArray, List.set_cons_zero, List.set_cons_succ]
  refine wpAnyH_ready (rs := [4]) (by decide +kernel) (by simp) ?_
  refine AllReadyH.cons rfl (fun K hK => ?_) AllReadyH.nil
  have q := LC.out _ hF
  go_simp
  clear q
  refine hK.out _ _ hS (fun _ => ?_)
  clear hK K
  try simp only [List.getElem_toArray, List.getElem_cons_succ, List.getElem_cons_zero, Act.put, List.setIfInBounds_toArray, List.set_cons_zero, List.set_cons_succ]
  refine wpAnyH_ready (rs := [12]) (by decide +kernel) (by simp) ?_
  refine AllReadyH.cons rfl (fun K hK => ?_) AllReadyH.nil
  refine step_append_src rfl (.tmp 88) (.tmp 95) 45 rfl B 52 ie (ev (0, tr0)) 18 224 cu45r HIE.out.1 HIE.out.2.1 HIE.out.2.2.1 HIE.out.2.2.2 (by kernel_rfl) (by decide) (.slice oa N1 oc) N1 (flatR rs) rfl (by have := own_fr HP1.out.rows hF (by simp); rw [HN1.out] at this; exact this) (some ⟨sb, 0, none⟩) 1 1 (evl ((l1 : Int), t)) rfl (by rw [evl_len]) (fun e => by cases e) (fun ad e => by cases e; exact HRB.out) (fun u hu => flatR_one [((l1 : Int), t)] u (by simpa [flatR] using hu)) HNL.out.1 HNL.out.2 (Nat.le_trans HB.out hF.size) ?_
  intro v' X2 ho2 hg2 hl2
  obtain ⟨va, vc, rfl, _⟩ := own_slice ho2
  have hF2 : Fr (Value.slice oa N1 oc).ownBlock.toList w3 X2 := (hF.sub (by simp)).trans (Fr.ofGrown hg2)
  have hcn : c ∉ (Value.slice oa N1 oc).ownBlock.toList := fun hm => HCO.out.1 c (by simpa using hm) rfl
  have htn : tb ∉ (Value.slice oa N1 oc).ownBlock.toList := fun hm => HCO.out.2.1 tb (by simpa using hm) rfl
  have hS : X2.cell? ⟨c, 5, none⟩ = some (.int .i64 (l1 : Int)) ∧ X2.heap[tb]? = some (.cells t.arr 35 (0, 0)) := ⟨hF2.cellNew HP1.out.blk hcn rfl, (hF2.block _ (Array.getElem?_eq_some_iff.1 HX1.out.1).1 htn).trans HX1.out.1⟩
  have q0 : X2.cell? ⟨c, 0, none⟩ = some (.slice oa N1 oc) := hF2.cellNew HP1.out.blk hcn rfl
  have z0 : X2.frozen? ⟨c, 0, none⟩ = false := hF2.frzNew HP1.out.blk hcn
  have hbX := (hF2.block _ HCO.out.2.2 hcn).trans HP1.out.blk
  refine hK.out _ _ hS (fun _ => ?_)
  clear hK K
  try simp only [List.getElem_toArray, List.getElem_cons_succ, List.getElem_cons_zero, Act.put, List.setIfInBounds_toArray, List.set_cons_zero, List.set_cons_succ]
  refine tk 13 (some 97) (.pointer (some ⟨c, 0, none⟩)) rfl rfl (Or.inl ⟨rfl, fun wq hSq => by first | rfl | go_simp⟩) (by decide +kernel) hS ?_
  simp only [Act.put, List.setIfInBounds_toArray, List.set_cons_zero, List.set_cons_succ]
  refine tk 14 (some 98) (.pointer (some ⟨c, 0, none⟩)) rfl rfl (Or.inl ⟨rfl, fun wq hSq => by first | rfl | go_simp⟩) (by decide +kernel) hS ?_
  simp only [Act.put, List.setIfInBounds_toArray, List.set_cons_zero, List.set_cons_succ]
  refine wpAnyH_ready (rs := [15]) (by decide +kernel) (by simp) ?_
  refine AllReadyH.cons rfl (fun K hK => ?_) AllReadyH.nil
  go_simp
  clear q0 z0
  have f3 : Fr [c] X2 (X2.setCell ⟨c, 0, none⟩ (.slice va (N1 + 1) vc)) := (Fr.refl _ _).setCell (.inl (by simp)) _
  have hS : (X2.setCell ⟨c, 0, none⟩ (.slice va (N1 + 1) vc)).cell? ⟨c, 5, none⟩ = some (.int .i64 (l1 : Int)) ∧ (X2.setCell ⟨c, 0, none⟩ (.slice va (N1 + 1) vc)).heap[tb]? = some (.cells t.arr 35 (0, 0)) := ⟨at_cells (set_blk (i := 0) (v := .slice va (N1 + 1) vc) hbX) 5 rfl, (f3.block _ (Array.getElem?_eq_some_iff.1 hS.2).1 (by simpa using HX1.out.2.2)).trans hS.2⟩
  have hbZ := set_blk (i := 0) (v := .slice va (N1 + 1) vc) hbX
  refine hK.out _ _ hS (fun _ => ?_)
  clear hK K
  try simp only [List.getElem_toArray, List.getElem_cons_succ, List.getElem_cons_zero, Act.put, List.setIfInBounds_toArray, List.set_cons_zero, List.set_cons_succ]
  refine wpAnyH_done (by decide +kernel) ?_ _
  refine plain_end ?_
  have hl3 : (rs ++ [((l1 : Int), t)]).length = N1 + 1 := by rw [List.length_append, HN1.out]; rfl
  have ho3 : X2.ownsRow B 52 18 (.slice va (N1 + 1) vc) (rs ++ [((l1 : Int), t)]).length (flatR (rs ++ [((l1 : Int), t)])) := by
    rw [flatR_app, hl3]
    simpa [flatR] using ho2
  obtain ⟨hp3, hg3⟩ := HP1.out.push hF2 ho3 f3 hbZ (fun r hr => by
    rcases List.mem_append.1 hr with h | h
    · exact .inl h
    · rw [List.mem_singleton.1 h]; exact .inr HX1.out.2.1)
  have HAB : Hid ((rs ++ [((l1 : Int), t)]).map absR = (pushB S t.abs).rows ∧ N1 + 1 = S.rows.length + 1) := by
    refine ⟨?_, by rw [← HN1.out, rs_len2 HW.out.1]⟩
    rw [List.map_append, HW.out.1, HL1.out]
    rfl
  have HP3 : Hid (RP (X2.setCell ⟨c, 0, none⟩ (.slice va (N1 + 1) vc)) B c (.slice va (N1 + 1) vc) nv S.lim pa pcap pf used l1 S.top (rs ++ [((l1 : Int), t)]) S.notes) := hp3
  have HG3 : Hid (Gm B pR false W (X2.setCell ⟨c, 0, none⟩ (.slice va (N1 + 1) vc))) := HG1.out.trans hg3
  clear hl3 ho3 hp3 hg3 hF2 hcn htn hbX f3 hbZ hS ho2 hg2 hl2 HP1 HG1 HX1 HIE LC HCO HNL HRB hYs hF HN1
  generalize N1 + 1 = N2 at *
  generalize X2.setCell ⟨c, 0, none⟩ (.slice va N2 vc) = w4 at *
  go_upto_region 17 with fail
  have hF : Fr [] w4 w4.drew := (Fr.refl _ _).drew
  have hS : w4.drew.cell? ⟨c, 0, none⟩ = some (.slice va N2 vc) := hF.cellNew HP3.out.blk (by simp) rfl
  have k6 : w4.drew.cell? ⟨c, 6, none⟩ = some (.int .i64 S.top) := hF.cellNew HP3.out.blk (by simp) rfl
  have z6 : w4.drew.frozen? ⟨c, 6, none⟩ = false := hF.frzNew HP3.out.blk (by simp)
  have hbY := (hF.block _ (Array.getElem?_eq_some_iff.1 HP3.out.blk).1 (by simp)).trans HP3.out.blk
  refine reg_in (fun w' => w'.cell? ⟨c, 0, none⟩ = some (.slice va N2 vc)) ?_
  generalize w4.drew = Y at *
  refine tk 0 (some 99) (.pointer (some ⟨c, 0, none⟩)) rfl rfl (Or.inl ⟨rfl, fun wq hSq => by first | rfl | go_simp⟩) (by decide +kernel) hS ?_
  simp only [Act.put, List.setIfInBounds_toArray, List.set_cons_zero, List.set_cons_succ]
  refine tk 1 (some 100) (.pointer (some ⟨c, 0, none⟩)) rfl rfl (Or.inl ⟨rfl, fun wq hSq => by first | rfl | go_simp⟩) (by decide +kernel) hS ?_
  simp only [Act.put, List.setIfInBounds_toArray, List.set_cons_zero, List.set_cons_succ]
  refine tk 2 (some 101) (.pointer (some ⟨c, 0, none⟩)) rfl rfl (Or.inl ⟨rfl, fun wq hSq => by first | rfl | go_simp⟩) (by decide +kernel) hS ?_
  simp only [Act.put, List.setIfInBounds_toArray, List.set_cons_zero, List.set_cons_succ]
  refine tk 3 (some 102) (.pointer (some ⟨c, 6, none⟩)) rfl rfl (Or.inl ⟨rfl, fun wq hSq => by first | rfl | go_simp⟩) (by decide +kernel) hS ?_
  simp only [Act.put, List.setIfInBounds_toArray, List.set_cons_zero, List.set_cons_succ]
  refine tk 5 (some 104) (.pointer (some ⟨c, 0, none⟩)) rfl rfl (Or.inl ⟨rfl, fun wq hSq => by first | rfl | go_simp⟩) (by decide +kernel) hS ?_
  simp only [Act.put, List.setIfInBounds_toArray, List.set_cons_zero, List.set_cons_succ]
  refine tk 6 (some 105) (.pointer (some ⟨c, 0, none⟩)) rfl rfl (Or.inl ⟨rfl, fun wq hSq => by first | rfl | go_simp⟩) (by decide +kernel) hS ?_
  simp only [Act.put, List.setIfInBounds_toArray, List.set_cons_zero, List.set_cons_succ]
  refine tk 7 (some 106) (.pointer (some ⟨c, 0, none⟩)) rfl rfl (Or.inl ⟨rfl, fun wq hSq => by first | rfl | go_simp⟩) (by decide +kernel) hS ?_
  simp only [Act.put, List.setIfInBounds_toArray, List.set_cons_zero, List.set_cons_succ]
  refine tk 8 (some 107) (.slice va N2 vc) rfl rfl (Or.inl ⟨rfl, fun wq hSq => by have q := hSq; go_simp⟩) (by decide +kernel) hS ?_
  simp only [Act.put, List.setIfInBounds_toArray, List.set_cons_zero, List.set_cons_succ]
  refine tk 9 (some 108) (.int .i64 (N2 : Int)) rfl rfl (Or.inl ⟨rfl, fun wq hSq => by go_simp⟩) (by decide +kernel) hS ?_
  simp only [Act.put, List.setIfInBounds_toArray, List.set_cons_zero, List.set_cons_succ]
  refine wpAnyH_ready (rs := [4]) (by decide +kernel) (by simp) ?_
  refine AllReadyH.cons rfl (fun K hK => ?_) AllReadyH.nil
  go_simp
  refine hK.out _ _ hS (fun _ => ?_)
  clear hK K
  try simp only [List.getElem_toArray, List.getElem_cons_succ, List.getElem_cons_zero, Act.put, List.setIfInBounds_toArray, List.set_cons_zero, List.set_cons_succ]
  refine tk 10 (some 109) (.int .i64 (max (S.top : Int) (N2 : Int))) rfl rfl (Or.inl ⟨rfl, fun wq hSq => by go_simp⟩) (by decide +kernel) hS ?_
  simp only [Act.put, List.setIfInBounds_toArray, List.set_cons_zero, List.set_cons_succ]
  refine tk 11 (some 110) (.pointer (some ⟨c, 0, none⟩)) rfl rfl (Or.inl ⟨rfl, fun wq hSq => by first | rfl | go_simp⟩) (by decide +kernel) hS ?_
  simp only [Act.put, List.setIfInBounds_toArray, List.set_cons_zero, List.set_cons_succ]
  refine tk 12 (some 111) (.pointer (some ⟨c, 6, none⟩)) rfl rfl (Or.inl ⟨rfl, fun wq hSq => by first | rfl | go_simp⟩) (by decide +kernel) hS ?_
  simp only [Act.put, List.setIfInBounds_toArray, List.set_cons_zero, List.set_cons_succ]
  refine wpAnyH_ready (rs := [13]) (by decide +kernel) (by simp) ?_
  refine AllReadyH.cons rfl (fun K hK => ?_) AllReadyH.nil
  go_simp
  have hf := set_blk (i := 6) (v := .int .i64 (max (S.top : Int) (N2 : Int))) hbY
  have f7 : Fr [c] Y (Y.setCell ⟨c, 6, none⟩ (.int .i64 (max (S.top : Int) (N2 : Int)))) := (Fr.refl _ _).setCell (.inl (by simp)) _
  have hS : (Y.setCell ⟨c, 6, none⟩ (.int .i64 (max (S.top : Int) (N2 : Int)))).cell? ⟨c, 0, none⟩ = some (.slice va N2 vc) := at_cells hf 0 rfl
  refine hK.out _ _ hS (fun _ => ?_)
  clear hK K
  try simp only [List.getElem_toArray, List.getElem_cons_succ, List.getElem_cons_zero, Act.put, List.setIfInBounds_toArray, List.set_cons_zero, List.set_cons_succ]
  refine wpAnyH_done (by decide +kernel) ?_ _
  refine plain_end ?_
  rw [max_cast] at *
  have hp5 := (HP3.out.fr0 hF).setNum (used' := used) (last' := l1) (top' := max S.top N2) f7 hf
  have HF : Hid (RA (Y.setCell ⟨c, 6, none⟩ (.int .i64 ((max S.top N2 : Nat) : Int))) B c (rs ++ [((l1 : Int), t)]) (pushB S t.abs) ∧ Gm B pR false W (Y.setCell ⟨c, 6, none⟩ (.int .i64 ((max S.top N2 : Nat) : Int)))) := by
    refine ⟨⟨⟨.slice va N2 vc, nv, pa, pcap, pf, used, ?_, HW.out.2.1, HW.out.2.2.1⟩, HAB.out.1⟩, (HG3.out.trans (Gm.ofFr0 hF)).trans ((HP3.out.fr0 hF).gmBlk f7)⟩
    show RP _ B c _ nv S.lim pa pcap pf used (S.last + 1) (max S.top (S.rows.length + 1)) _ S.notes
    rw [← HL1.out, ← HAB.out.2]
    exact hp5
  have k5 : (Y.setCell ⟨c, 6, none⟩ (.int .i64 ((max S.top N2 : Nat) : Int))).cell? ⟨c, 5, none⟩ = some (.int .i64 (l1 : Int)) := at_cells hf 5 rfl
  clear hp5 hf f7 hS k6 z6 hbY hF HP3 HG3 HAB
  generalize Y.setCell ⟨c, 6, none⟩ (.int .i64 ((max S.top N2 : Nat) : Int)) = w5 at *
  go_wp2
  go_ret
  exact ⟨by rw [← HL1.out]; rfl, ⟨_, HF.out.1⟩, HF.out.2⟩
end Go.Proofs.Ytnhjplfdfbbihaa
namespace Go.Proofs.Ytnhjplfdfbbihaa
open Go.RowKit Go.Shelf Go.Maps Go.ChangeShapes
set_option linter.unusedVariables false
set_option linter.unusedSimpArgs false
def rowLen (w : World) (c : Nat) : Nat := match w.cell? ⟨c, 0, none⟩ with
  | some (.slice _ n _) => n
  | _ => 0
theorem rowLen_of {w : World} {B c : Nat} {rs : List Rt} {S : Bk} (h : RA w B c rs S) : rowLen w c = rs.length := by
  obtain ⟨rv, nv, pa, pcap, pf, used, hp, _⟩ := h.ex
  obtain ⟨ra, rc, rfl, _⟩ := own_slice hp.rows
  have k0 : w.cell? ⟨c, 0, none⟩ = some (.slice ra rs.length rc) := at_cells hp.blk 0 rfl
  unfold rowLen
  rw [k0]
set_option maxRecDepth 100000 in
set_option maxHeartbeats 4000000 in
theorem rut_tail {W : World} {B c n : Nat} {rs : List Rt} {S : Bk} (h : RA W B c rs S) (ho : Ok S n) (hn : n ≤ 1048576) (hBW : B ≤ W.heap.size) (hN : 0 < rs.length) {p0 : Int} {pi : Nat} (hpi : (pi : Int) = if p0.tmod rs.length < 0 then p0.tmod rs.length + rs.length else p0.tmod rs.length) {Q : Exit → Act → World → Prop} {u1 u2 u3 u4 u5 u7 u8 u9 u10 u11 u12 u13 u14 u15 u16 u17 u18 u19 u20 u21 u22 u23 u24 u25 u26 u27 u28 u29 u30 u31 u32 u33 u34 u35 u36 u37 u38 u39 u40 u41 u42 u43 u44 u45 u46 u47 u48 u49 u50 u51 u52 u53 u54 u55 u56 u57 u58 u59 u60 u61 u62 u63 u64 u65 u66 u67 u68 u69 u70 u71 u72 u73 u74 u75 u76 u77 u78 u79 u80 u81 u82 u83 u84 u85 u86 u87 u88 u89 u90 u91 u92 u93 u94 u95 u96 u97 u98 u99 u100 u101 u102 u103 u104 u105 u106 u107 u108 u109 u110 u111 u112 u113 u114 u115 : Value}
    (hQ : Hid (∀ W2, RA W2 B c (rs.eraseIdx pi) (goneB S pi) → Gm B pR false W W2 → ∀ n6 n58 n59 n60 n61 n62 n63 n64 n65 n66 n67 n68 n69 n70 n71 n72 n73 n74 n75 n76, Q .normal { tmps := #[.pointer (some ⟨c, 0, none⟩), u1, u2, u3, u4, u5, n6, u7, u8, u9, u10, u11, u12, u13, u14, u15, u16, u17, u18, u19, u20, u21, u22, u23, u24, u25, u26, u27, u28, u29, u30, u31, u32, u33, u34, u35, u36, u37, u38, u39, u40, u41, u42, u43, u44, u45, u46, u47, u48, u49, u50, u51, u52, u53, u54, u55, u56, u57, n58, n59, n60, n61, n62, n63, n64, n65, n66, n67, n68, n69, n70, n71, n72, n73, n74, n75, n76, u77, u78, u79, u80, u81, u82, u83, u84, u85, u86, u87, u88, u89, u90, u91, u92, u93, u94, u95, u96, u97, u98, u99, u100, u101, u102, u103, u104, u105, u106, u107, u108, u109, u110, u111, u112, u113, u114, u115], defers := [] } W2)) :
    (sub Try.f23 [1, 1, 1, 0, 0, 0, 1, 0, 1, 1]).wp Try.prog Q { tmps := #[.pointer (some ⟨c, 0, none⟩), u1, u2, u3, u4, u5, .int .i64 p0, u7, u8, u9, u10, u11, u12, u13, u14, u15, u16, u17, u18, u19, u20, u21, u22, u23, u24, u25, u26, u27, u28, u29, u30, u31, u32, u33, u34, u35, u36, u37, u38, u39, u40, u41, u42, u43, u44, u45, u46, u47, u48, u49, u50, u51, u52, u53, u54, u55, u56, u57, u58, u59, u60, u61, u62, u63, u64, u65, u66, u67, u68, u69, u70, u71, u72, u73, u74, u75, u76, u77, u78, u79, u80, u81, u82, u83, u84, u85, u86, u87, u88, u89, u90, u91, u92, u93, u94, u95, u96, u97, u98, u99, u100, u101, u102, u103, u104, u105, u106, u107, u108, u109, u110, u111, u112, u113, u114, u115], defers := [] } W := by
  have hlen := h.len ho
  obtain ⟨rv, nv, pa, pcap, pf, used, hp, _⟩ := h.ex
  obtain ⟨ra, rc, rfl, _⟩ := own_slice hp.rows
  obtain ⟨N, hNe⟩ : ∃ N, rs.length = N := ⟨_, rfl⟩
  have k0 : W.cell? ⟨c, 0, none⟩ = some (.slice ra N rc) := by rw [← hNe]; exact at_cells hp.blk 0 rfl
  rw [hNe] at hpi hN hlen
  have hb1 := Int.tmod_lt_of_pos p0 (show (0 : Int) < N by omega)
  have hb2 := Int.lt_tmod_of_pos p0 (show (0 : Int) < N by omega)
  have hpl : pi < rs.length := by rw [hNe]; split at hpi <;> omega
  have CG := gone_any h ho hn hBW hpl
  have hmI : ¬ ((N : Int) = 0) := by omega
  have hN1 : (N : Int) ≤ 1000 := by omega
  clear h ho hn hBW hp hNe hpl hN hlen
  generalize hr : p0.tmod N = r at hpi hb1 hb2
  have HR : Hid (p0.tmod N = r) := hr
  dsimp only [sub, nav, kid, Try.f23, Option.getD, if_true, if_false]
  by_cases hneg : r < 0
  · rw [if_pos hneg] at hpi
    have hpe : r + (N : Int) = (pi : Int) := hpi.symm
    clear hpi
    go_upto_region 12 with fail
    try rw [hr]
    clear hr
    go_upto_region 14 with fail
    try rw [hpe]
    clear hpe hb1 hb2 hneg hmI hN1
    go_wp2_with (go_at_call 37; refine CG.mono ?_; rintro e w2 ⟨rfl, h2, g2⟩)
    exact hQ.out _ h2 g2 _ _ _ _ _ _ _ _ _ _ _ _ _ _ _ _ _ _ _ _
  · rw [if_neg hneg] at hpi
    have hpe : r = (pi : Int) := hpi.symm
    clear hpi
    go_upto_region 12 with fail
    try rw [hr]
    clear hr
    go_upto_region 14 with fail
    try rw [hpe]
    clear hpe hb1 hb2 hneg hmI hN1
    go_wp2_with (go_at_call 37; refine CG.mono ?_; rintro e w2 ⟨rfl, h2, g2⟩)
    exact hQ.out _ h2 g2 _ _ _ _ _ _ _ _ _ _ _ _ _ _ _ _ _ _ _ _
end Go.Proofs.Ytnhjplfdfbbihaa
namespace Go.Proofs.Ytnhjplfdfbbihaa
open Go.RowKit Go.Shelf Go.Maps Go.ChangeShapes
set_option linter.unusedVariables false
set_option linter.unusedSimpArgs false
/-- Room is being made for a trace. -/
structure RutI (W wr : World) (B c n tb : Nat) (t : Tr) (S1 : Bk) (rs : List Rt) (S : Bk) : Prop where
  ra : RA wr B c rs S
  ok : Ok S n
  room : roomB S = roomB S1
  lim : S.lim ≠ 0
  box : wr.heap[tb]? = some (.cells t.arr 35 (0, 0))
  tr : TrOk wr B t
  gm : Gm B pR false W wr
  big : B ≤ wr.heap.size
theorem ok_tail {S : Bk} {n : Nat} (h : Ok S n) : Ok { S with pk := S.pk.tail } n := ⟨h.lim, h.len, h.last, h.top, h.ids, h.idr, h.keys, h.ok, h.apart, h.nf, h.nn, h.nw⟩
theorem pick_int (L : List Int) (N : Nat) (hN : 0 < N) : ((pickP L N : Nat) : Int) = if (L.headD 0).tmod N < 0 then (L.headD 0).tmod N + N else (L.headD 0).tmod N := by
  unfold pickP
  cases L with
  | nil => simp
  | cons p q =>
    simp only [List.headD_cons]
    have h1 := Int.tmod_lt_of_pos p (show (0 : Int) < N by omega)
    have h2 := Int.lt_tmod_of_pos p (show (0 : Int) < N by omega)
    split <;> omega
set_option maxRecDepth 100000 in
set_option maxHeartbeats 8000000 in
theorem rut_loop {W0 W : World} {B c n tb : Nat} {rs : List Rt} {S1 S : Bk} {t : Tr} (hn : n ≤ 1048576) (hI : RutI W0 W B c n tb t S1 rs S) {Q : Exit → Act → World → Prop} {u1 u2 u4 u5 u6 u7 u8 u9 u10 u11 u12 u13 u14 u15 u16 u17 u18 u19 u20 u21 u22 u23 u24 u25 u26 u27 u28 u29 u30 u31 u32 u33 u34 u35 u36 u37 u38 u39 u40 u41 u42 u43 u44 u45 u46 u47 u48 u49 u50 u51 u52 u53 u54 u55 u56 u57 u58 u59 u60 u61 u62 u63 u64 u65 u66 u67 u68 u69 u70 u71 u72 u73 u74 u75 u76 u77 u78 u79 u80 u81 u82 u83 u84 u85 u86 u87 u88 u89 u90 u91 u92 u93 u94 u95 u96 u97 u98 u99 u100 u101 u102 u103 u104 u105 u106 u107 u108 u109 u110 u111 u112 u113 u114 u115 : Value}
    (hQ : Hid (∀ rs2 W2, RutI W0 W2 B c n tb t S1 rs2 (roomB S1) → ∀ n6 n21 n22 n23 n24 n25 n26 n27 n28 n29 n30 n31 n32 n33 n34 n35 n36 n37 n38 n39 n40 n41 n42 n43 n44 n45 n46 n47 n48 n49 n50 n51 n52 n53 n54 n55 n56 n57 n58 n59 n60 n61 n62 n63 n64 n65 n66 n67 n68 n69 n70 n71 n72 n73 n74 n75 n76, Q .normal { tmps := #[.pointer (some ⟨c, 0, none⟩), u1, u2, .pointer (some ⟨tb, 0, none⟩), u4, u5, n6, u7, u8, u9, u10, u11, u12, u13, u14, u15, u16, u17, u18, u19, u20, n21, n22, n23, n24, n25, n26, n27, n28, n29, n30, n31, n32, n33, n34, n35, n36, n37, n38, n39, n40, n41, n42, n43, n44, n45, n46, n47, n48, n49, n50, n51, n52, n53, n54, n55, n56, n57, n58, n59, n60, n61, n62, n63, n64, n65, n66, n67, n68, n69, n70, n71, n72, n73, n74, n75, n76, u77, u78, u79, u80, u81, u82, u83, u84, u85, u86, u87, u88, u89, u90, u91, u92, u93, u94, u95, u96, u97, u98, u99, u100, u101, u102, u103, u104, u105, u106, u107, u108, u109, u110, u111, u112, u113, u114, u115], defers := [] } W2)) :
    (sub Try.f23 [1, 1, 1, 0, 0]).wp Try.prog (Exit.inBlock 0 Q) { tmps := #[.pointer (some ⟨c, 0, none⟩), u1, u2, .pointer (some ⟨tb, 0, none⟩), u4, u5, u6, u7, u8, u9, u10, u11, u12, u13, u14, u15, u16, u17, u18, u19, u20, u21, u22, u23, u24, u25, u26, u27, u28, u29, u30, u31, u32, u33, u34, u35, u36, u37, u38, u39, u40, u41, u42, u43, u44, u45, u46, u47, u48, u49, u50, u51, u52, u53, u54, u55, u56, u57, u58, u59, u60, u61, u62, u63, u64, u65, u66, u67, u68, u69, u70, u71, u72, u73, u74, u75, u76, u77, u78, u79, u80, u81, u82, u83, u84, u85, u86, u87, u88, u89, u90, u91, u92, u93, u94, u95, u96, u97, u98, u99, u100, u101, u102, u103, u104, u105, u106, u107, u108, u109, u110, u111, u112, u113, u114, u115], defers := [] } W := by
  have HI0 : Hid (RutI W0 W B c n tb t S1 rs S) := hI
  have HN : Hid (n ≤ 1048576) := hn
  clear hI hn
  dsimp only [sub, nav, kid, Try.f23, Option.getD, if_true, if_false]
  go_wp2
  go_loopw [6] (fun v wr => ∃ rs2 S2, Hid (RutI W0 wr B c n tb t S1 rs2 S2)) (fun _ wr => rowLen wr c)
  case atStart => exact ⟨_, _, HI0⟩
  case round =>
    obtain ⟨rs2, S2, I⟩ := hrel
    clear HI0
    obtain ⟨rv, nv, pa, pcap, pf, used, hp, hpk, hus⟩ := I.out.ra.ex
    have habs := I.out.ra.abs
    obtain ⟨ra, rc, rfl, _⟩ := own_slice hp.rows
    obtain ⟨N1, hN1⟩ : ∃ N1, rs2.length = N1 := ⟨_, rfl⟩
    rw [hN1] at hp
    have hN2 : S2.rows.length = N1 := by rw [← hN1, rs_len2 habs]
    obtain ⟨lm, hlm⟩ : ∃ lm, S2.lim = lm := ⟨_, rfl⟩
    have HN1 : Hid (rs2.length = N1 ∧ S2.rows.length = N1 ∧ S2.lim = lm) := ⟨hN1, hN2, hlm⟩
    have HP : Hid (RP wr B c (.slice ra N1 rc) nv S2.lim pa pcap pf used S2.last S2.top rs2 S2.notes ∧ pf.drop used = S2.pk ∧ used ≤ pf.length) := ⟨hp, hpk, hus⟩
    have LC : Hid (∀ w', Fr [] wr w' → w'.cell? ⟨c, 0, none⟩ = some (.slice ra N1 rc)) := fun w' f => f.cellNew HP.out.1.blk (by simp) rfl
    have LM : Hid (∀ w', Fr [] wr w' → w'.cell? ⟨c, 2, none⟩ = some (.int .i64 (lm : Int))) := fun w' f => by rw [← hlm]; exact f.cellNew HP.out.1.blk (by simp) rfl
    have hle : N1 ≤ lm := by have := I.out.ok.len; omega
    have hl1000 : lm ≤ 1000 := by have := I.out.ok.lim; omega
    have hlm0 : lm ≠ 0 := by have := I.out.lim; omega
    clear hp hpk hus habs hN1 hN2 hlm
    have hS : Fr [] wr wr.drew := (Fr.refl _ _).drew
    by_cases hlt : N1 < lm
    · have hge : ¬ ((lm : Int) ≤ (N1 : Int)) := by omega
      clear hle hl1000 hlm0
      go_upto_region 6 with fail
      refine reg_in (fun w' => Fr [] wr w') ?_
      generalize wr.drew = Y at *
      refine tk 0 (some 21) (.pointer (some ⟨c, 0, none⟩)) rfl rfl (Or.inl ⟨rfl, fun wq hSq => by first | rfl | go_simp⟩) (by decide +kernel) hS ?_
      simp only [Act.put, List.setIfInBounds_toArray, List.set_cons_zero, List.set_cons_succ]
      refine tk 1 (some 22) (.pointer (some ⟨c, 0, none⟩)) rfl rfl (Or.inl ⟨rfl, fun wq hSq => by first | rfl | go_simp⟩) (by decide +kernel) hS ?_
      simp only [Act.put, List.setIfInBounds_toArray, List.set_cons_zero, List.set_cons_succ]
      refine tk 2 (some 23) (.pointer (some ⟨c, 0, none⟩)) rfl rfl (Or.inl ⟨rfl, fun wq hSq => by first | rfl | go_simp⟩) (by decide +kernel) hS ?_
      simp only [Act.put, List.setIfInBounds_toArray, List.set_cons_zero, List.set_cons_succ]
      refine tk 3 (some 24) (.slice ra N1 rc) rfl rfl (Or.inl ⟨rfl, fun wq hSq => by have q := LC.out wq hSq; go_simp⟩) (by decide +kernel) hS ?_
      simp only [Act.put, List.setIfInBounds_toArray, List.set_cons_zero, List.set_cons_succ]
      refine tk 4 (some 25) (.int .i64 (N1 : Int)) rfl rfl (Or.inl ⟨rfl, fun wq hSq => by go_simp⟩) (by decide +kernel) hS ?_
      simp only [Act.put, List.setIfInBounds_toArray, List.set_cons_zero, List.set_cons_succ]
      refine tk 5 (some 26) (.pointer (some ⟨c, 0, none⟩)) rfl rfl (Or.inl ⟨rfl, fun wq hSq => by first | rfl | go_simp⟩) (by decide +kernel) hS ?_
      simp only [Act.put, List.setIfInBounds_toArray, List.set_cons_zero, List.set_cons_succ]
      refine tk 6 (some 27) (.pointer (some ⟨c, 0, none⟩)) rfl rfl (Or.inl ⟨rfl, fun wq hSq => by first | rfl | go_simp⟩) (by decide +kernel) hS ?_
      simp only [Act.put, List.setIfInBounds_toArray, List.set_cons_zero, List.set_cons_succ]
      refine tk 7 (some 28) (.pointer (some ⟨c, 2, none⟩)) rfl rfl (Or.inl ⟨rfl, fun wq hSq => by first | rfl | go_simp⟩) (by decide +kernel) hS ?_
      simp only [Act.put, List.setIfInBounds_toArray, List.set_cons_zero, List.set_cons_succ]
      refine tk 8 (some 29) (.int .i64 (lm : Int)) rfl rfl (Or.inl ⟨rfl, fun wq hSq => by have q := LM.out wq hSq; go_simp⟩) (by decide +kernel) hS ?_
      simp only [Act.put, List.setIfInBounds_toArray, List.set_cons_zero, List.set_cons_succ]
      refine tk 9 (some 30) (.bool false) rfl rfl (Or.inl ⟨rfl, fun wq hSq => by go_simp⟩) (by decide +kernel) hS ?_
      simp only [Act.put, List.setIfInBounds_toArray, List.set_cons_zero, List.set_cons_succ]
      refine wpAnyH_done (by decide +kernel) ?_ _
      refine plain_end ?_
      have hr : roomB S2 = S2 := by unfold roomB; rw [if_pos (by rw [HN1.out.2.1, HN1.out.2.2]; exact hlt)]
      have hr2 : roomB S1 = S2 := by rw [← I.out.room, hr]
      have HF : Hid (RutI W0 Y B c n tb t S1 rs2 (roomB S1)) := by
        have I1 := I.out
        show RutI W0 Y B c n tb t S1 rs2 (roomB S1)
        rw [hr2]
        exact ⟨I1.ra.fr0 hS, I1.ok, by rw [hr, hr2], I1.lim, (hS.block _ (Array.getElem?_eq_some_iff.1 I1.box).1 (by simp)).trans I1.box, I1.tr.fr0 hS, I1.gm.trans (Gm.ofFr0 hS), Nat.le_trans I1.big hS.size⟩
      clear hr hr2 hS I HN1 HP LC LM hlt hge
      go_wp2
      exact hQ.out _ _ HF.out _ _ _ _ _ _ _ _ _ _ _ _ _ _ _ _ _ _ _ _ _ _ _ _ _ _ _ _ _ _ _ _ _ _ _ _ _ _ _ _ _ _ _ _ _ _ _ _ _ _ _ _ _ _ _ _ _
    · have hge : (lm : Int) ≤ (N1 : Int) := by omega
      have HLL : Hid (N1 = lm ∧ lm ≤ 1000 ∧ lm ≠ 0) := ⟨by omega, hl1000, hlm0⟩
      clear hle hl1000 hlm0 hlt
      go_upto_region 6 with fail
      refine reg_in (fun w' => Fr [] wr w') ?_
      generalize wr.drew = Y at *
      refine tk 0 (some 21) (.pointer (some ⟨c, 0, none⟩)) rfl rfl (Or.inl ⟨rfl, fun wq hSq => by first | rfl | go_simp⟩) (by decide +kernel) hS ?_
      simp only [Act.put, List.setIfInBounds_toArray, List.set_cons_zero, List.set_cons_succ]
      refine tk 1 (some 22) (.pointer (some ⟨c, 0, none⟩)) rfl rfl (Or.inl ⟨rfl, fun wq hSq => by first | rfl | go_simp⟩) (by decide +kernel) hS ?_
      simp only [Act.put, List.setIfInBounds_toArray, List.set_cons_zero, List.set_cons_succ]
      refine tk 2 (some 23) (.pointer (some ⟨c, 0, none⟩)) rfl rfl (Or.inl ⟨rfl, fun wq hSq => by first | rfl | go_simp⟩) (by decide +kernel) hS ?_
      simp only [Act.put, List.setIfInBounds_toArray, List.set_cons_zero, List.set_cons_succ]
      refine tk 3 (some 24) (.slice ra N1 rc) rfl rfl (Or.inl ⟨rfl, fun wq hSq => by have q := LC.out wq hSq; go_simp⟩) (by decide +kernel) hS ?_
      simp only [Act.put, List.setIfInBounds_toArray, List.set_cons_zero, List.set_cons_succ]
      refine tk 4 (some 25) (.int .i64 (N1 : Int)) rfl rfl (Or.inl ⟨rfl, fun wq hSq => by go_simp⟩) (by decide +kernel) hS ?_
      simp only [Act.put, List.setIfInBounds_toArray, List.set_cons_zero, List.set_cons_succ]
      refine tk 5 (some 26) (.pointer (some ⟨c, 0, none⟩)) rfl rfl (Or.inl ⟨rfl, fun wq hSq => by first | rfl | go_simp⟩) (by decide +kernel) hS ?_
      simp only [Act.put, List.setIfInBounds_toArray, List.set_cons_zero, List.set_cons_succ]
      refine tk 6 (some 27) (.pointer (some ⟨c, 0, none⟩)) rfl rfl (Or.inl ⟨rfl, fun wq hSq => by first | rfl | go_simp⟩) (by decide +kernel) hS ?_
      simp only [Act.put, List.setIfInBounds_toArray, List.set_cons_zero, List.set_cons_succ]
      refine tk 7 (some 28) (.pointer (some ⟨c, 2, none⟩)) rfl rfl (Or.inl ⟨rfl, fun wq hSq => by first | rfl | go_simp⟩) (by decide +kernel) hS ?_
      simp only [Act.put, List.setIfInBounds_toArray, List.set_cons_zero, List.set_cons_succ]
      refine tk 8 (some 29) (.int .i64 (lm : Int)) rfl rfl (Or.inl ⟨rfl, fun wq hSq => by have q := LM.out wq hSq; go_simp⟩) (by decide +kernel) hS ?_
      simp only [Act.put, List.setIfInBounds_toArray, List.set_cons_zero, List.set_cons_succ]
      refine tk 9 (some 30) (.bool true) rfl rfl (Or.inl ⟨rfl, fun wq hSq => by go_simp⟩) (by decide +kernel) hS ?_
      simp only [Act.put, List.setIfInBounds_toArray, List.set_cons_zero, List.set_cons_succ]
      refine wpAnyH_done (by decide +kernel) ?_ _
      refine plain_end ?_
      have FY : Hid (Fr [] wr Y) := hS
      have LP : Hid (∀ w', Fr [] wr w' → w'.cell? ⟨c, 3, none⟩ = some (.slice pa pf.length pcap)) := fun w' f => f.cellNew HP.out.1.blk (by simp) rfl
      obtain ⟨z, hz⟩ : ∃ z : Int, z = used := ⟨_, rfl⟩
      obtain ⟨y, hy⟩ : ∃ y : Int, y = pf.length := ⟨_, rfl⟩
      have LU : Hid (∀ w', Fr [] wr w' → w'.cell? ⟨c, 4, none⟩ = some (.int .i64 z)) := fun w' f => by rw [hz]; exact f.cellNew HP.out.1.blk (by simp) rfl
      have HZ : Hid (z = used ∧ y = pf.length) := ⟨hz, hy⟩
      have hyb : y ≤ 17592186044416 := by have := HP.out.1.pick.fit; omega
      have hz0 : 0 ≤ z := by omega
      have hzy : z ≤ y := by have := HP.out.2.2; omega
      have HYL : Hid ((pf.length : Int) = y) := hy.symm
      clear hz hy hS
      go_upto_region 8 with fail
      have hS : Fr [] wr Y.drew := FY.out.drew
      by_cases hlu : z < y
      · refine reg_in (fun w' => Fr [] wr w') ?_
        generalize Y.drew = T at *
        refine tk 0 (some 31) (.pointer (some ⟨c, 0, none⟩)) rfl rfl (Or.inl ⟨rfl, fun wq hSq => by first | rfl | go_simp⟩) (by decide +kernel) hS ?_
        simp only [Act.put, List.setIfInBounds_toArray, List.set_cons_zero, List.set_cons_succ]
        refine tk 1 (some 32) (.pointer (some ⟨c, 0, none⟩)) rfl rfl (Or.inl ⟨rfl, fun wq hSq => by first | rfl | go_simp⟩) (by decide +kernel) hS ?_
        simp only [Act.put, List.setIfInBounds_toArray, List.set_cons_zero, List.set_cons_succ]
        refine tk 2 (some 33) (.pointer (some ⟨c, 4, none⟩)) rfl rfl (Or.inl ⟨rfl, fun wq hSq => by first | rfl | go_simp⟩) (by decide +kernel) hS ?_
        simp only [Act.put, List.setIfInBounds_toArray, List.set_cons_zero, List.set_cons_succ]
        refine tk 3 (some 34) (.int .i64 z) rfl rfl (Or.inl ⟨rfl, fun wq hSq => by have q := LU.out wq hSq; go_simp⟩) (by decide +kernel) hS ?_
        simp only [Act.put, List.setIfInBounds_toArray, List.set_cons_zero, List.set_cons_succ]
        refine tk 4 (some 35) (.pointer (some ⟨c, 0, none⟩)) rfl rfl (Or.inl ⟨rfl, fun wq hSq => by first | rfl | go_simp⟩) (by decide +kernel) hS ?_
        simp only [Act.put, List.setIfInBounds_toArray, List.set_cons_zero, List.set_cons_succ]
        refine tk 5 (some 36) (.pointer (some ⟨c, 0, none⟩)) rfl rfl (Or.inl ⟨rfl, fun wq hSq => by first | rfl | go_simp⟩) (by decide +kernel) hS ?_
        simp only [Act.put, List.setIfInBounds_toArray, List.set_cons_zero, List.set_cons_succ]
        refine tk 6 (some 37) (.pointer (some ⟨c, 3, none⟩)) rfl rfl (Or.inl ⟨rfl, fun wq hSq => by first | rfl | go_simp⟩) (by decide +kernel) hS ?_
        simp only [Act.put, List.setIfInBounds_toArray, List.set_cons_zero, List.set_cons_succ]
        refine tk 7 (some 38) (.slice pa pf.length pcap) rfl rfl (Or.inl ⟨rfl, fun wq hSq => by have q := LP.out wq hSq; go_simp⟩) (by decide +kernel) hS ?_
        simp only [Act.put, List.setIfInBounds_toArray, List.set_cons_zero, List.set_cons_succ]
        refine tk 8 (some 39) (.int .i64 y) rfl rfl (Or.inl ⟨rfl, fun wq hSq => by have q := HYL.out; go_simp⟩) (by decide +kernel) hS ?_
        simp only [Act.put, List.setIfInBounds_toArray, List.set_cons_zero, List.set_cons_succ]
        refine tk 9 (some 40) (.bool true) rfl rfl (Or.inl ⟨rfl, fun wq hSq => by go_simp⟩) (by decide +kernel) hS ?_
        simp only [Act.put, List.setIfInBounds_toArray, List.set_cons_zero, List.set_cons_succ]
        refine wpAnyH_done (by decide +kernel) ?_ _
        refine plain_end ?_
        have FT : Hid (Fr [] wr T) := hS
        obtain ⟨pv, hpv⟩ : ∃ pv, pf[used]? = some pv := ⟨_, List.getElem?_eq_getElem (by have := HZ.out; omega)⟩
        obtain ⟨b, o, hpa, hcp, _⟩ := HP.out.1.pick.cell used (.int .i64 pv) (by rw [List.getElem?_map, hpv]; rfl)
        have HPA : Hid (pa = some ⟨b, o, none⟩) := hpa
        have LV : Hid (∀ w', Fr [] wr w' → w'.cell? ⟨b, o + used, none⟩ = some (.int .i64 pv)) := fun w' f => f.cell1 hcp (by simp)
        have HPV : Hid (pf[used]? = some pv) := hpv
        have hzu : z.toNat = used := by have := HZ.out; omega
        have HZU : Hid (z.toNat = used) := hzu
        rw [hpa] at LP
        clear hS hpv hpa hcp hzu
        go_upto_region 9 with fail
        have hS : Fr [] wr T.drew := FT.out.drew
        refine reg_in (fun w' => Fr [] wr w') ?_
        generalize T.drew = U at *
        refine tk 0 (some 41) (.pointer (some ⟨c, 0, none⟩)) rfl rfl (Or.inl ⟨rfl, fun wq hSq => by first | rfl | go_simp⟩) (by decide +kernel) hS ?_
        simp only [Act.put, List.setIfInBounds_toArray, List.set_cons_zero, List.set_cons_succ]
        refine tk 1 (some 42) (.pointer (some ⟨c, 0, none⟩)) rfl rfl (Or.inl ⟨rfl, fun wq hSq => by first | rfl | go_simp⟩) (by decide +kernel) hS ?_
        simp only [Act.put, List.setIfInBounds_toArray, List.set_cons_zero, List.set_cons_succ]
        refine tk 2 (some 43) (.pointer (some ⟨c, 3, none⟩)) rfl rfl (Or.inl ⟨rfl, fun wq hSq => by first | rfl | go_simp⟩) (by decide +kernel) hS ?_
        simp only [Act.put, List.setIfInBounds_toArray, List.set_cons_zero, List.set_cons_succ]
        refine tk 3 (some 44) (.slice (some ⟨b, o, none⟩) pf.length pcap) rfl rfl (Or.inl ⟨rfl, fun wq hSq => by have q := LP.out wq hSq; go_simp⟩) (by decide +kernel) hS ?_
        simp only [Act.put, List.setIfInBounds_toArray, List.set_cons_zero, List.set_cons_succ]
        refine tk 4 (some 45) (.pointer (some ⟨c, 0, none⟩)) rfl rfl (Or.inl ⟨rfl, fun wq hSq => by first | rfl | go_simp⟩) (by decide +kernel) hS ?_
        simp only [Act.put, List.setIfInBounds_toArray, List.set_cons_zero, List.set_cons_succ]
        refine tk 5 (some 46) (.pointer (some ⟨c, 0, none⟩)) rfl rfl (Or.inl ⟨rfl, fun wq hSq => by first | rfl | go_simp⟩) (by decide +kernel) hS ?_
        simp only [Act.put, List.setIfInBounds_toArray, List.set_cons_zero, List.set_cons_succ]
        refine tk 6 (some 47) (.pointer (some ⟨c, 4, none⟩)) rfl rfl (Or.inl ⟨rfl, fun wq hSq => by first | rfl | go_simp⟩) (by decide +kernel) hS ?_
        simp only [Act.put, List.setIfInBounds_toArray, List.set_cons_zero, List.set_cons_succ]
        refine tk 7 (some 48) (.int .i64 z) rfl rfl (Or.inl ⟨rfl, fun wq hSq => by have q := LU.out wq hSq; go_simp⟩) (by decide +kernel) hS ?_
        simp only [Act.put, List.setIfInBounds_toArray, List.set_cons_zero, List.set_cons_succ]
        refine tk 8 (some 49) (.pointer (some ⟨b, o + used, none⟩)) rfl rfl (Or.inl ⟨rfl, fun wq hSq => by have q := HYL.out; have q2 := HZU.out; go_simp⟩) (by decide +kernel) hS ?_
        simp only [Act.put, List.setIfInBounds_toArray, List.set_cons_zero, List.set_cons_succ]
        refine tk 9 (some 50) (.int .i64 pv) rfl rfl (Or.inl ⟨rfl, fun wq hSq => by have q := LV.out wq hSq; go_simp⟩) (by decide +kernel) hS ?_
        simp only [Act.put, List.setIfInBounds_toArray, List.set_cons_zero, List.set_cons_succ]
        refine tk 10 (some 6) (.int .i64 pv) rfl rfl (Or.inl ⟨rfl, fun wq hSq => by first | rfl | go_simp⟩) (by decide +kernel) hS ?_
        simp only [Act.put, List.setIfInBounds_toArray, List.set_cons_zero, List.set_cons_succ]
        refine wpAnyH_done (by decide +kernel) ?_ _
        refine plain_end ?_
        have hbU := (hS.block _ (Array.getElem?_eq_some_iff.1 HP.out.1.blk).1 (by simp)).trans HP.out.1.blk
        have k4 : U.cell? ⟨c, 4, none⟩ = some (.int .i64 z) := LU.out _ hS
        have z4 : U.frozen? ⟨c, 4, none⟩ = false := frz hbU
        have f3 : Fr [c] U (U.setCell ⟨c, 4, none⟩ (.int .i64 ((used + 1 : Nat) : Int))) := (Fr.refl _ _).setCell (.inl (by simp)) _
        have hb3 := set_blk (i := 4) (v := .int .i64 ((used + 1 : Nat) : Int)) hbU
        have hP3 := (HP.out.1.fr0 hS).setNum (used' := used + 1) (last' := S2.last) (top' := S2.top) f3 hb3
        have hg3 := (HP.out.1.fr0 hS).gmBlk f3
        have hdr : pf.drop (used + 1) = S2.pk.tail ∧ S2.pk.headD 0 = pv ∧ used + 1 ≤ pf.length := by
          have h1 := HP.out.2.1
          obtain ⟨h2, h3⟩ := List.getElem?_eq_some_iff.1 HPV.out
          rw [List.drop_eq_getElem_cons h2, h3] at h1
          rw [← h1]
          exact ⟨rfl, rfl, h2⟩
        have HRX : Hid (RA (U.setCell ⟨c, 4, none⟩ (.int .i64 ((used + 1 : Nat) : Int))) B c rs2 { S2 with pk := S2.pk.tail } ∧ Gm B pR false wr (U.setCell ⟨c, 4, none⟩ (.int .i64 ((used + 1 : Nat) : Int))) ∧ S2.pk.headD 0 = pv) := ⟨⟨⟨_, _, _, _, _, _, hP3, hdr.1, hdr.2.2⟩, I.out.ra.abs⟩, (Gm.ofFr0 hS).trans hg3, hdr.2.1⟩
        have k0 : (U.setCell ⟨c, 4, none⟩ (.int .i64 ((used + 1 : Nat) : Int))).cell? ⟨c, 0, none⟩ = some (.slice ra N1 rc) := at_cells hb3 0 rfl
        clear hbU f3 hb3 hP3 hg3 hdr hS
        go_upto_region 11 with fail
        rw [show (z + 1) = ((used + 1 : Nat) : Int) by rw [HZ.out.1]; rfl]
        clear k4 z4 hz0 hzy hyb hlu
        generalize U.setCell ⟨c, 4, none⟩ (.int .i64 ((used + 1 : Nat) : Int)) = X at *
        have HRA : Hid (RA X B c rs2 { S2 with pk := S2.pk.tail } ∧ Gm B pR false wr X) := ⟨HRX.out.1, HRX.out.2.1⟩
        have hN0 : 0 < rs2.length := by rw [HN1.out.1]; have := HLL.out; omega
        have hpi := pick_int S2.pk rs2.length hN0
        obtain ⟨pi, hpp⟩ : ∃ pi, pi = pickP S2.pk rs2.length := ⟨_, rfl⟩
        have hpl : pi < rs2.length := by rw [hpp]; exact pickP_lt _ hN0
        have HPL : Hid (pi < rs2.length) := hpl
        have HPI : Hid (pickP S2.pk rs2.length = pi) := hpp.symm
        rw [← hpp, HRX.out.2.2, HN1.out.1] at hpi
        have CG := gone_any HRA.out.1 (ok_tail I.out.ok) HN.out (Nat.le_trans I.out.big HRA.out.2.size) hpl
        have hb1 := Int.tmod_lt_of_pos pv (show (0 : Int) < N1 by rw [HN1.out.1] at hN0; omega)
        have hb2 := Int.lt_tmod_of_pos pv (show (0 : Int) < N1 by rw [HN1.out.1] at hN0; omega)
        have hmI : ¬ ((N1 : Int) = 0) := by rw [HN1.out.1] at hN0; omega
        have hNle : (N1 : Int) ≤ 1000 := by have := HLL.out; omega
        clear hpp hpl hN0 HRX
        generalize hr : pv.tmod N1 = r at hpi hb1 hb2
        by_cases hneg : r < 0
        · rw [if_pos hneg] at hpi
          have hpe := hpi.symm
          clear hpi
          go_upto_region 12 with fail
          try rw [hr]
          clear hr
          go_upto_region 14 with fail
          try rw [hpe]
          clear hpe hb1 hb2 hneg hmI hNle k0 hge
          go_wp2_with (go_at_call 37; refine CG.mono ?_; rintro e Q5 ⟨rfl, hQ5, gQ5⟩)
          have hrm : roomB S2 = { goneB S2 pi with pk := S2.pk.tail } := by unfold roomB; rw [if_neg (by rw [HN1.out.2.1, HN1.out.2.2]; have := HLL.out.1; omega), HN1.out.2.1, ← HN1.out.1, HPI.out]
          have hI1 := I.out
          have gwr : Gm B pR false wr Q5 := HRA.out.2.trans gQ5
          have HF : Hid (RutI W0 Q5 B c n tb t S1 (rs2.eraseIdx pi) (roomB S2) ∧ rowLen Q5 c + 1 = N1 ∧ rowLen wr c = N1) := by
            refine ⟨⟨by rw [hrm]; exact hQ5, (hI1.ok.room hI1.lim).1, by rw [room_room hI1.ok hI1.lim, hI1.room], by rw [room_lim]; exact hI1.lim, (gwr.block _ (Array.getElem?_eq_some_iff.1 hI1.box).1 (.inr (.inl ⟨_, _, _, hI1.box, rfl⟩))).trans hI1.box, hI1.tr.gm gwr pR_ro, hI1.gm.trans gwr, Nat.le_trans hI1.big gwr.size⟩, ?_, by rw [rowLen_of hI1.ra]; exact HN1.out.1⟩
            have hpl := HPL.out
            rw [rowLen_of hQ5, List.length_eraseIdx_of_lt hpl, HN1.out.1]
            rw [HN1.out.1] at hpl
            omega
          clear hrm hI1 gwr hQ5 gQ5 HRA I HN1 HP LC LM HLL HPL HPI
          go_roundw
          case rel => exact ⟨_, _, HF.out.1⟩
          case measure => have := HF.out.2; omega
        · rw [if_neg hneg] at hpi
          have hpe := hpi.symm
          clear hpi
          go_upto_region 12 with fail
          try rw [hr]
          clear hr
          go_upto_region 14 with fail
          try rw [hpe]
          clear hpe hb1 hb2 hneg hmI hNle k0 hge
          go_wp2_with (go_at_call 37; refine CG.mono ?_; rintro e Q5 ⟨rfl, hQ5, gQ5⟩)
          have hrm : roomB S2 = { goneB S2 pi with pk := S2.pk.tail } := by unfold roomB; rw [if_neg (by rw [HN1.out.2.1, HN1.out.2.2]; have := HLL.out.1; omega), HN1.out.2.1, ← HN1.out.1, HPI.out]
          have hI1 := I.out
          have gwr : Gm B pR false wr Q5 := HRA.out.2.trans gQ5
          have HF : Hid (RutI W0 Q5 B c n tb t S1 (rs2.eraseIdx pi) (roomB S2) ∧ rowLen Q5 c + 1 = N1 ∧ rowLen wr c = N1) := by
            refine ⟨⟨by rw [hrm]; exact hQ5, (hI1.ok.room hI1.lim).1, by rw [room_room hI1.ok hI1.lim, hI1.room], by rw [room_lim]; exact hI1.lim, (gwr.block _ (Array.getElem?_eq_some_iff.1 hI1.box).1 (.inr (.inl ⟨_, _, _, hI1.box, rfl⟩))).trans hI1.box, hI1.tr.gm gwr pR_ro, hI1.gm.trans gwr, Nat.le_trans hI1.big gwr.size⟩, ?_, by rw [rowLen_of hI1.ra]; exact HN1.out.1⟩
            have hpl := HPL.out
            rw [rowLen_of hQ5, List.length_eraseIdx_of_lt hpl, HN1.out.1]
            rw [HN1.out.1] at hpl
            omega
          clear hrm hI1 gwr hQ5 gQ5 HRA I HN1 HP LC LM HLL HPL HPI
          go_roundw
          case rel => exact ⟨_, _, HF.out.1⟩
          case measure => have := HF.out.2; omega
      · refine reg_in (fun w' => Fr [] wr w') ?_
        generalize Y.drew = T at *
        refine tk 0 (some 31) (.pointer (some ⟨c, 0, none⟩)) rfl rfl (Or.inl ⟨rfl, fun wq hSq => by first | rfl | go_simp⟩) (by decide +kernel) hS ?_
        simp only [Act.put, List.setIfInBounds_toArray, List.set_cons_zero, List.set_cons_succ]
        refine tk 1 (some 32) (.pointer (some ⟨c, 0, none⟩)) rfl rfl (Or.inl ⟨rfl, fun wq hSq => by first | rfl | go_simp⟩) (by decide +kernel) hS ?_
        simp only [Act.put, List.setIfInBounds_toArray, List.set_cons_zero, List.set_cons_succ]
        refine tk 2 (some 33) (.pointer (some ⟨c, 4, none⟩)) rfl rfl (Or.inl ⟨rfl, fun wq hSq => by first | rfl | go_simp⟩) (by decide +kernel) hS ?_
        simp only [Act.put, List.setIfInBounds_toArray, List.set_cons_zero, List.set_cons_succ]
        refine tk 3 (some 34) (.int .i64 z) rfl rfl (Or.inl ⟨rfl, fun wq hSq => by have q := LU.out wq hSq; go_simp⟩) (by decide +kernel) hS ?_
        simp only [Act.put, List.setIfInBounds_toArray, List.set_cons_zero, List.set_cons_succ]
        refine tk 4 (some 35) (.pointer (some ⟨c, 0, none⟩)) rfl rfl (Or.inl ⟨rfl, fun wq hSq => by first | rfl | go_simp⟩) (by decide +kernel) hS ?_
        simp only [Act.put, List.setIfInBounds_toArray, List.set_cons_zero, List.set_cons_succ]
        refine tk 5 (some 36) (.pointer (some ⟨c, 0, none⟩)) rfl rfl (Or.inl ⟨rfl, fun wq hSq => by first | rfl | go_simp⟩) (by decide +kernel) hS ?_
        simp only [Act.put, List.setIfInBounds_toArray, List.set_cons_zero, List.set_cons_succ]
        refine tk 6 (some 37) (.pointer (some ⟨c, 3, none⟩)) rfl rfl (Or.inl ⟨rfl, fun wq hSq => by first | rfl | go_simp⟩) (by decide +kernel) hS ?_
        simp only [Act.put, List.setIfInBounds_toArray, List.set_cons_zero, List.set_cons_succ]
        refine tk 7 (some 38) (.slice pa pf.length pcap) rfl rfl (Or.inl ⟨rfl, fun wq hSq => by have q := LP.out wq hSq; go_simp⟩) (by decide +kernel) hS ?_
        simp only [Act.put, List.setIfInBounds_toArray, List.set_cons_zero, List.set_cons_succ]
        refine tk 8 (some 39) (.int .i64 y) rfl rfl (Or.inl ⟨rfl, fun wq hSq => by have q := HYL.out; go_simp⟩) (by decide +kernel) hS ?_
        simp only [Act.put, List.setIfInBounds_toArray, List.set_cons_zero, List.set_cons_succ]
        refine tk 9 (some 40) (.bool false) rfl rfl (Or.inl ⟨rfl, fun wq hSq => by go_simp⟩) (by decide +kernel) hS ?_
        simp only [Act.put, List.setIfInBounds_toArray, List.set_cons_zero, List.set_cons_succ]
        refine wpAnyH_done (by decide +kernel) ?_ _
        refine plain_end ?_
        have hnil : S2.pk = [] := by rw [← HP.out.2.1]; exact List.drop_eq_nil_of_le (by have := HZ.out; omega)
        have HRX : Hid (RA T B c rs2 { S2 with pk := S2.pk.tail } ∧ Gm B pR false wr T ∧ S2.pk.headD 0 = 0) := by
          rw [show ({ S2 with pk := S2.pk.tail } : Bk) = S2 by rw [hnil]; show ({ S2 with pk := ([] : List Int) } : Bk) = S2; rw [← hnil]]
          exact ⟨I.out.ra.fr0 hS, Gm.ofFr0 hS, by rw [hnil]; rfl⟩
        have HPI : Hid (pickP S2.pk rs2.length = 0) := by show pickP S2.pk rs2.length = 0; rw [hnil]; rfl
        have k0 : T.cell? ⟨c, 0, none⟩ = some (.slice ra N1 rc) := LC.out T hS
        clear hnil hS
        go_upto_region 11 with fail
        clear hz0 hzy hyb hlu
        have HRA : Hid (RA T B c rs2 { S2 with pk := S2.pk.tail } ∧ Gm B pR false wr T) := ⟨HRX.out.1, HRX.out.2.1⟩
        have hN0 : 0 < rs2.length := by rw [HN1.out.1]; have := HLL.out; omega
        have HPL : Hid (0 < rs2.length) := hN0
        have CG := gone_any HRA.out.1 (ok_tail I.out.ok) HN.out (Nat.le_trans I.out.big HRA.out.2.size) hN0
        change Calls Try.prog 37 #[.pointer (some ⟨c, 0, none⟩), .int .i64 0] T _ at CG
        have hmI : ¬ ((N1 : Int) = 0) := by rw [HN1.out.1] at hN0; omega
        have hNle : (N1 : Int) ≤ 1000 := by have := HLL.out; omega
        clear hN0 HRX
        go_upto_region 14 with fail
        clear hmI hNle k0 hge
        go_wp2_with (go_at_call 37; refine CG.mono ?_; rintro e Q5 ⟨rfl, hQ5, gQ5⟩)
        have hrm : roomB S2 = { goneB S2 0 with pk := S2.pk.tail } := by unfold roomB; rw [if_neg (by rw [HN1.out.2.1, HN1.out.2.2]; have := HLL.out.1; omega), HN1.out.2.1, ← HN1.out.1, HPI.out]
        have hI1 := I.out
        have gwr : Gm B pR false wr Q5 := HRA.out.2.trans gQ5
        have HF : Hid (RutI W0 Q5 B c n tb t S1 (rs2.eraseIdx 0) (roomB S2) ∧ rowLen Q5 c + 1 = N1 ∧ rowLen wr c = N1) := by
          refine ⟨⟨by rw [hrm]; exact hQ5, (hI1.ok.room hI1.lim).1, by rw [room_room hI1.ok hI1.lim, hI1.room], by rw [room_lim]; exact hI1.lim, (gwr.block _ (Array.getElem?_eq_some_iff.1 hI1.box).1 (.inr (.inl ⟨_, _, _, hI1.box, rfl⟩))).trans hI1.box, hI1.tr.gm gwr pR_ro, hI1.gm.trans gwr, Nat.le_trans hI1.big gwr.size⟩, ?_, by rw [rowLen_of hI1.ra]; exact HN1.out.1⟩
          have hpl := HPL.out
          rw [rowLen_of hQ5, List.length_eraseIdx_of_lt hpl, HN1.out.1]
          rw [HN1.out.1] at hpl
          omega
        clear hrm hI1 gwr hQ5 gQ5 HRA I HN1 HP LC LM HLL HPL HPI
        go_roundw
        case rel => exact ⟨_, _, HF.out.1⟩
        case measure => have := HF.out.2; omega
end Go.Proofs.Ytnhjplfdfbbihaa
