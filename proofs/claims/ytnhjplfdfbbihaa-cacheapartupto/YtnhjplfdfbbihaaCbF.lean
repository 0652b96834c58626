/-
  A trace goes: of what is held, of the order, of what is noted; condition: the cache lies as told.
-/
import Derived.Test.YtnhjplfdfbbihaaCbE
namespace Go.Proofs.Ytnhjplfdfbbihaa
open Go.RowKit Go.Shelf Go.Maps Go.ChangeShapes
set_option linter.unusedVariables false
set_option linter.unusedSimpArgs false
theorem key_cells {y : Mb} : (mcp y) = .int .i64 y.1 :: (kc y.2).toList := rfl
theorem key_range83 {w : World} {b : Nat} {y : Mb} (h : w.heap[b]? = some (.cells (mcp y).toArray 83 (0, 0))) : w.rangeAt b 1 (kc y.2).toList := fun j v hv => by
  rw [Nat.add_comm]
  refine at_cells h (j + 1) ?_
  rw [key_cells]
  simpa using hv
theorem idAt_of {rs : List Rt} {S : Bk} (h : rs.map absR = S.rows) {i : Nat} {r : Rt} (hi : rs[i]? = some r) : idAt S.rows i = r.1 := by
  rw [idAt, ← h, List.getElem?_map, hi]
  rfl
theorem nd_of {rs : List Rt} {S : Bk} {n : Nat} (h : rs.map absR = S.rows) (ho : Ok S n) : NdK rs := by
  have := ho.keys
  rw [← h, List.pairwise_map] at this
  exact this
theorem mem_row {rs : List Rt} {S : Bk} (h : rs.map absR = S.rows) {r : Rt} (hr : r ∈ rs) : absR r ∈ S.rows := by
  rw [← h]
  exact List.mem_map.2 ⟨r, hr, rfl⟩
theorem srt_of {rs : List Rt} {S : Bk} {n : Nat} (h : rs.map absR = S.rows) (ho : Ok S n) : Srt (rs.map mb) := by
  have := ho.ids
  rw [← h, List.pairwise_map] at this
  exact List.pairwise_map.2 this
theorem w64_small {x : Int} (h1 : 0 ≤ x) (h2 : x ≤ 1000000000000000) : W64 x := by
  unfold W64
  have a1 : IntKind.min .i64 = -9223372036854775808 := by decide
  have a2 : IntKind.max .i64 = 9223372036854775807 := by decide
  simp only [Lit.wf, a1, a2, Bool.and_eq_true, decide_eq_true_eq]
  omega
theorem mbw {rs : List Rt} {S : Bk} {n : Nat} (h : rs.map absR = S.rows) (ho : Ok S n) (hn : n ≤ 100000000000000) : ∀ x ∈ rs.map mb, Mb.w x := by
  intro x hx
  obtain ⟨r, hr, rfl⟩ := List.mem_map.1 hx
  have hm := mem_row h hr
  have h1 := ho.idr _ hm
  have h2 := ho.last
  exact ⟨w64_small (by have h3 : 1 ≤ r.1 := h1.1; show 0 ≤ r.1; omega) (by have h3 : r.1 ≤ S.last := h1.2; show r.1 ≤ _; omega), (ho.ok _ hm).kw⟩
theorem set_blk {W : World} {k i : Nat} {A : Array Value} {v : Value} {t : TypeId} {z : Nat × Nat} (h : W.heap[k]? = some (.cells A t z)) : (W.setCell ⟨k, i, none⟩ v).heap[k]? = some (.cells (A.setIfInBounds i v) t z) := by
  simp only [World.setCell, Array.getElem?_modify, h]
  simp
theorem map_erase (L : List Rt) (i : Nat) : (L.map mb).eraseIdx i = (L.eraseIdx i).map mb := by
  apply List.ext_getElem?
  intro j
  simp only [List.getElem?_eraseIdx, List.getElem?_map]
  split <;> rfl
theorem map_eraseA (L : List Rt) (i : Nat) : (L.map absR).eraseIdx i = (L.eraseIdx i).map absR := by
  apply List.ext_getElem?
  intro j
  simp only [List.getElem?_eraseIdx, List.getElem?_map]
  split <;> rfl
theorem frz {w : World} {k i : Nat} {A : Array Value} {t : TypeId} (h : w.heap[k]? = some (.cells A t (0, 0))) : w.frozen? ⟨k, i, none⟩ = false := by simp [World.frozen?, h]
theorem Fr.frzNew {w w' : World} {S : List Nat} {b i : Nat} {A : Array Value} {t : TypeId} (f : Fr S w w') (h : w.heap[b]? = some (.cells A t (0, 0))) (hS : b ∉ S) : w'.frozen? ⟨b, i, none⟩ = false := frz ((f.block _ (Array.getElem?_eq_some_iff.1 h).1 hS).trans h)
theorem Fr.cellNew {w w' : World} {S : List Nat} {b i : Nat} {A : Array Value} {t : TypeId} {z : Nat × Nat} {u : Value} (f : Fr S w w') (h : w.heap[b]? = some (.cells A t z)) (hS : b ∉ S) (hu : A[i]? = some u) : w'.cell? ⟨b, i, none⟩ = some u := at_cells ((f.block _ (Array.getElem?_eq_some_iff.1 h).1 hS).trans h) i hu
set_option maxRecDepth 100000 in
set_option maxHeartbeats 4000000 in
theorem letGo_any {w : World} {B c n : Nat} {rs : List Rt} {S : Bk} (h : CA w B c n rs S) (ho : Ok S n) (hn : n ≤ 100000000000000) (hBw : B ≤ w.heap.size) {i : Nat} {r : Rt} (hi : rs[i]? = some r) :
    Calls Try.prog 29 #[.pointer (some ⟨c, 0, none⟩), .agg (mcp (mb r)).toArray] w fun e w' => e = .returned (.tuple #[]) ∧ CA w' B c n (rs.eraseIdx i) (goneB S i) ∧ Gm B pP true w w' := by
  obtain ⟨pa, pcap, hb, ov, fb, lb, hp⟩ := h.ex
  have habs := h.abs
  clear h
  have hrm : r ∈ rs := List.mem_of_getElem? hi
  have hrS := mem_row habs hrm
  have hkw : kw r.2.k := (ho.ok _ hrS).kw
  have hnd := nd_of habs ho
  have hlen : (rs.map mb).length = rs.length := List.length_map ..
  have hL : (rs.map mb).length ≤ 1000 := by have := ho.len; have := ho.lim; rw [← habs, List.length_map] at *; omega
  have hid := idAt_of habs hi
  have hr1 : r.1 ≠ 0 := by have := (ho.idr _ hrS).1; simp only [absR] at this; omega
  have hmi : (rs.map mb)[i]? = some (mb r) := by rw [List.getElem?_map, hi]; rfl
  have hone : ∀ j x, j ≠ i → (rs.map mb)[j]? = some x → x.1 ≠ (mb r).1 := by
    intro j x hj hx he
    have hs := srt_of habs ho
    obtain ⟨h1, h2⟩ := List.getElem?_eq_some_iff.1 hx
    obtain ⟨h3, h4⟩ := List.getElem?_eq_some_iff.1 hmi
    rcases Nat.lt_or_gt_of_ne hj with hlt | hlt
    · have := List.pairwise_iff_getElem.1 hs j i h1 h3 hlt
      rw [h2, h4] at this
      exact absurd this (by rw [he]; exact Int.lt_irrefl _)
    · have := List.pairwise_iff_getElem.1 hs i j h3 h1 hlt
      rw [h2, h4] at this
      exact absurd this (by rw [he]; exact Int.lt_irrefl _)
  have hmw := mbw habs ho hn
  have hov : ∀ k, ov.ownBlock = some k → k < w.heap.size := fun k hk => (hp.ord.lt k hk).2
  -- the box, what is held
  have hp1 := hp.fr0 ((Fr.refl [] w).alloc (.cells (mcp (mb r)).toArray 83))
  have hx1 := heap_alloc_new w (.cells (mcp (mb r)).toArray 83)
  have hg1 : Gm B pP true w (w.alloc (.cells (mcp (mb r)).toArray 83)) := Gm.ofFr0 ((Fr.refl _ _).alloc _)
  go_enter Try.func29, Try.ntmps29
  go_upto_region 1 with fail
  generalize w.alloc (.cells (mcp (mb r)).toArray 83) = V at *
  generalize hgb : w.heap.size = gb at *
  refine reg_in (fun w' => Fr [hb] V w') ?_
  obtain ⟨w1, hdel, hM, f1, hs1⟩ := (hp1.held.fr (Fr.refl [] V).drew (by simp)).drop hnd hi hkw 0
  have fd : Fr [] V V.drew := (Fr.refl _ _).drew
  have hS : Fr [hb] V V.drew := (Fr.refl _ _).drew
  have hS2 : Fr [hb] V w1 := hS.trans f1
  have hcb : c ≠ hb := by obtain ⟨es, cl, hk⟩ := hp1.held.blk; rintro rfl; rw [hp1.blk] at hk; cases hk
  have hgbb : gb ≠ hb := by obtain ⟨es, cl, hk⟩ := hp1.held.blk; rintro rfl; rw [hx1] at hk; cases hk
  have L1 : Hid (∀ w', Fr [hb] V w' → w'.rangeAt gb 1 (kc (mb r).2).toList) := fun w' f => key_range83 ((f.block _ (Array.getElem?_eq_some_iff.1 hx1).1 (by simpa using hgbb)).trans hx1)
  have L2 : Hid (∀ w', Fr [hb] V w' → w'.cell? ⟨c, 2, none⟩ = some (.map (some hb))) := fun w' f => at_cells ((f.block _ (Array.getElem?_eq_some_iff.1 hp1.blk).1 (by simpa using hcb)).trans hp1.blk) 2 rfl
  have HP : Hid (CP V B c pa pcap hb ov fb lb S.lim S.pk S.last S.top n rs (rs.map mb) (failsF S.notes) (linksF S.notes)) := hp1
  have HX : Hid (V.heap[gb]? = some (.cells (mcp (mb r)).toArray 83 (0, 0))) := hx1
  have HM1 : Hid (HM w1 hb n (rs.eraseIdx i)) := hM
  have HG : Hid (Gm B pP true w V) := hg1
  change (Builtin.delete_ #[60, 29] 0 #[.map (some hb), .agg (kc (mb r).2)]).run Try.prog V.drew = .ok (.tuple #[]) w1 at hdel
  clear hp hp1 hx1 hM hg1 f1 fd
  generalize V.drew = Y at *
  refine tk 0 (some 4) (.pointer (some ⟨c, 0, none⟩)) rfl rfl (Or.inl ⟨rfl, fun wq hSq => by first | rfl | go_simp⟩) (by decide +kernel) hS ?_
  simp only [Act.put, List.setIfInBounds_toArray, List.set_cons_zero, List.set_cons_succ]
  refine tk 1 (some 5) (.pointer (some ⟨c, 0, none⟩)) rfl rfl (Or.inl ⟨rfl, fun wq hSq => by first | rfl | go_simp⟩) (by decide +kernel) hS ?_
  simp only [Act.put, List.setIfInBounds_toArray, List.set_cons_zero, List.set_cons_succ]
  refine tk 2 (some 6) (.pointer (some ⟨c, 2, none⟩)) rfl rfl (Or.inl ⟨rfl, fun wq hSq => by first | rfl | go_simp⟩) (by decide +kernel) hS ?_
  simp only [Act.put, List.setIfInBounds_toArray, List.set_cons_zero, List.set_cons_succ]
  refine tk 3 (some 7) (.map (some hb)) rfl rfl (Or.inl ⟨rfl, fun wq hSq => by have q := L2.out wq hSq; go_simp⟩) (by decide +kernel) hS ?_
  simp only [Act.put, List.setIfInBounds_toArray, List.set_cons_zero, List.set_cons_succ]
  refine tk 4 (some 8) (.pointer (some ⟨gb, 1, none⟩)) rfl rfl (Or.inl ⟨rfl, fun wq hSq => by first | rfl | go_simp⟩) (by decide +kernel) hS ?_
  simp only [Act.put, List.setIfInBounds_toArray, List.set_cons_zero, List.set_cons_succ]
  refine tk 5 (some 9) (.agg (kc (mb r).2)) rfl rfl ?_ (by decide +kernel) hS ?_
  · exact yieldsIf_load_mid rfl 29 (.tmp 8) rfl gb 1 rfl (kc (mb r).2).toList _ (fun wq hSq => L1.out wq hSq) Try.underlying29 rfl (by rw [info29]; simp [kc_size])
  simp only [Act.put, List.setIfInBounds_toArray, List.set_cons_zero, List.set_cons_succ]
  refine wpAnyH_ready (rs := [6]) (by decide +kernel) (by simp) ?_
  refine AllReadyH.cons rfl (fun K hK => ?_) AllReadyH.nil
  go_simp
  refine hK.out _ _ hS2 (fun _ => ?_)
  clear hK K
  try simp only [Act.put, List.setIfInBounds_toArray, List.set_cons_zero, List.set_cons_succ]
  refine wpAnyH_done (by decide +kernel) ?_ _
  refine plain_end ?_
  have HP1 : Hid (CP w1 B c pa pcap hb ov fb lb S.lim S.pk S.last S.top n (rs.eraseIdx i) (rs.map mb) (failsF S.notes) (linksF S.notes)) := CP.setHeld HP.out hS2 (Nat.le_refl _) HM1.out (fun x hx => .inl (List.mem_of_mem_eraseIdx hx))
  have HG1 : Hid (Gm B pP true w w1) := HG.out.trans (HP.out.gmHeld hS2)
  have hX1 := (hS2.block _ (Array.getElem?_eq_some_iff.1 HX.out).1 (by simpa using hgbb)).trans HX.out
  clear hS hS2 hdel L1 L2 HM1 HG HP HX
  -- the order
  have hord := HP1.out.ord
  obtain ⟨g, oc, rfl⟩ : ∃ g oc, ov = .slice (some ⟨g, 0, none⟩) (rs.map mb).length oc := by
    obtain ⟨g, oc, e1, _⟩ := own_cells hord (j := i * 11) (List.getElem?_eq_getElem (by rw [flatM_len]; have := (List.getElem?_eq_some_iff.1 hmi).1; omega))
    exact ⟨g, oc, e1⟩
  have hgg : gb ≠ g := by have := hov g rfl; omega
  obtain ⟨m, hm⟩ : ∃ m, (rs.map mb).length = m + 1 := ⟨(rs.map mb).length - 1, by have := (List.getElem?_eq_some_iff.1 hmi).1; omega⟩
  have C0 := del40_any (gb := gb) (i := i) (y := mb r) hord (by omega) hmw hX1 hgg hmi hone
  have C : Calls Try.prog 40 #[.slice (some ⟨g, 0, none⟩) (rs.map mb).length oc, .func (.func 41) #[] #[.pointer (some ⟨gb, 0, none⟩)]] w1 fun e w' => e = .returned (.slice (some ⟨g, 0, none⟩) m oc) ∧ Hid (Fr [g] w1 w' ∧ w'.ownsRow B 83 11 (.slice (some ⟨g, 0, none⟩) m oc) m (flatM ((rs.map mb).eraseIdx i))) := C0.mono fun e w' ⟨h1, h2, h3⟩ => by
    rw [hm] at h1 h3
    exact ⟨h1, h2, h3⟩
  have HM2 : Hid ((rs.map mb).length = m + 1) := hm
  generalize hms : (rs.map mb).length = ml at C
  have HMS : Hid (#[Value.int .i64 S.lim, .slice pa S.pk.length pcap, .map (some hb), .slice (some ⟨g, 0, none⟩) (rs.map mb).length oc, .map (some fb), .map (some lb), .int .i64 S.last, .int .i64 S.top][3]? = some (.slice (some ⟨g, 0, none⟩) ml oc)) := by rw [hms]; rfl
  have hcg : c ≠ g := by rintro rfl; exact own_ne hord HP1.out.blk (by decide) rfl
  have k3 : w1.cell? ⟨c, 3, none⟩ = some (.slice (some ⟨g, 0, none⟩) ml oc) := at_cells HP1.out.blk 3 HMS.out
  have HX1 : Hid (w1.heap[gb]? = some (.cells (mcp (mb r)).toArray 83 (0, 0))) := hX1
  have HE : Hid (rs.map absR = S.rows ∧ Ok S n ∧ idAt S.rows i = r.1 ∧ r.1 ≠ 0 ∧ (rs.map mb).eraseIdx i = (rs.eraseIdx i).map mb ∧ c ≠ g ∧ gb ≠ g) := ⟨habs, ho, hid, hr1, map_erase _ _, hcg, hgg⟩
  clear hord hX1 C0 hm hms hmi hone hmw hov hid hr1 habs ho hn hi hrm hrS hkw hnd hlen hL hcg hgg hBw hcb hgbb hgb
  go_upto_region 2 with fail
  go_upto_region 3 with (go_at_call 40; refine C.mono ?_; rintro e w2 ⟨rfl, HO2⟩; have k3' : w2.cell? ⟨c, 3, none⟩ = some (.slice (some ⟨g, 0, none⟩) ml oc) := HO2.out.1.cellNew HP1.out.blk (by simpa using HE.out.2.2.2.2.2.1) HMS.out; have z3 : w2.frozen? ⟨c, 3, none⟩ = false := HO2.out.1.frzNew HP1.out.blk (by simpa using HE.out.2.2.2.2.2.1); clear C k3)
  obtain ⟨habs, ho, hid, hr1, hers, hcg, hgg⟩ := HE.out
  have hml : ((rs.eraseIdx i).map mb).length = m := by
    have h1 := flatM_len ((rs.map mb).eraseIdx i)
    have h2 := HO2.out.2.1
    rw [← hers]; omega
  have hb2 := (HO2.out.1.block _ (Array.getElem?_eq_some_iff.1 HP1.out.blk).1 (by simpa using hcg)).trans HP1.out.blk
  have f3 : Fr [c] w2 (w2.setCell ⟨c, 3, none⟩ (.slice (some ⟨g, 0, none⟩) m oc)) := (Fr.refl _ _).setCell (.inl (by simp)) _
  have hb3 := set_blk (i := 3) (v := .slice (some ⟨g, 0, none⟩) m oc) hb2
  have ho2 : w2.ownsRow B 83 11 (.slice (some ⟨g, 0, none⟩) m oc) ((rs.eraseIdx i).map mb).length (flatM ((rs.eraseIdx i).map mb)) := by rw [hml, ← hers]; exact HO2.out.2
  have HP3 : Hid (CP (w2.setCell ⟨c, 3, none⟩ (.slice (some ⟨g, 0, none⟩) m oc)) B c pa pcap hb (.slice (some ⟨g, 0, none⟩) m oc) fb lb S.lim S.pk S.last S.top n (rs.eraseIdx i) ((rs.eraseIdx i).map mb) (failsF S.notes) (linksF S.notes)) := HP1.out.setOrd HO2.out.1 (by simp [Value.ownBlock]) ho2 f3 hb3
  have HG3 : Hid (Gm B pP true w (w2.setCell ⟨c, 3, none⟩ (.slice (some ⟨g, 0, none⟩) m oc))) := HG1.out.trans (HP1.out.gmOrd HO2.out.1 (by simp [Value.ownBlock]) f3)
  have HX3 : Hid ((w2.setCell ⟨c, 3, none⟩ (.slice (some ⟨g, 0, none⟩) m oc)).heap[gb]? = some (.cells (mcp (mb r)).toArray 83 (0, 0))) := (f3.block _ (by have := HO2.out.1.size; have := (Array.getElem?_eq_some_iff.1 HX1.out).1; omega) (by have h1 := HP1.out.blk; have h2 := HX1.out; intro hm; have e : gb = c := (by simpa using hm); rw [e, h1] at h2; simp at h2)).trans ((HO2.out.1.block _ (Array.getElem?_eq_some_iff.1 HX1.out).1 (by simpa using hgg)).trans HX1.out)
  clear HP1 HG1 HX1 HO2 k3' z3 hb2 f3 hb3 ho2 habs ho hid hr1 hers hcg hgg hml
  generalize w2.setCell ⟨c, 3, none⟩ (.slice (some ⟨g, 0, none⟩) m oc) = w3 at *
  -- what is noted
  have C4 := cut43 HP3.out.fails (mb r) HX3.out
  have k4 : w3.cell? ⟨c, 4, none⟩ = some (.map (some fb)) := at_cells HP3.out.blk 4 rfl
  go_upto_region 4 with (go_at_call 42; refine C4.mono ?_; rintro e w4 ⟨rfl, h4, f4⟩; have H4 : Hid (SM w4 fb n _ ∧ Fr [fb] w3 w4) := ⟨h4, f4⟩; clear h4 f4 C4 k4)
  have HP4 : Hid (CP w4 B c pa pcap hb (.slice (some ⟨g, 0, none⟩) m oc) fb lb S.lim S.pk S.last S.top n (rs.eraseIdx i) ((rs.eraseIdx i).map mb) (cutS (failsF S.notes) (fun i _ _ => decide (i = (mb r).1))) (linksF S.notes)) := HP3.out.setFails H4.out.2 (Nat.le_refl _) H4.out.1
  have HG4 : Hid (Gm B pP true w w4) := HG3.out.trans (HP3.out.gmFails H4.out.2)
  have HX4 : Hid (w4.heap[gb]? = some (.cells (mcp (mb r)).toArray 83 (0, 0))) := (H4.out.2.block _ (Array.getElem?_eq_some_iff.1 HX3.out).1 (by simpa using HP3.out.fails.noCells HX3.out)).trans HX3.out
  clear HP3 HG3 HX3 H4
  have C5 := cut44 HP4.out.links (mb r) HX4.out
  have k5 : w4.cell? ⟨c, 5, none⟩ = some (.map (some lb)) := at_cells HP4.out.blk 5 rfl
  go_wp2_with (go_at_call 42; refine C5.mono ?_; rintro e w5 ⟨rfl, h5, f5⟩; have H5 : Hid (SM w5 lb n _ ∧ Fr [lb] w4 w5) := ⟨h5, f5⟩; clear h5 f5 C5 k5)
  obtain ⟨habs, ho, hid, hr1, hers, hcg, hgg⟩ := HE.out
  have hp5 := HP4.out.setLinks H5.out.2 (Nat.le_refl _) H5.out.1
  have eg : (mb r).1 = idAt S.rows i := hid.symm
  rw [eg, ← fails_gone, ← links_gone _ (by rw [hid]; exact hr1)] at hp5
  have hfin : CA w5 B c n (rs.eraseIdx i) (goneB S i) := ⟨⟨_, _, _, _, _, _, hp5⟩, by rw [← map_eraseA, habs]; rfl⟩
  have hgm := HG4.out.trans (HP4.out.gmLinks H5.out.2)
  go_end0
  exact ⟨rfl, hfin, hgm⟩
end Go.Proofs.Ytnhjplfdfbbihaa
