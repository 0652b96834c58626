/-
  A trace goes out of the document's cache, with what is noted of it; condition: the cache lies as told.
-/
import Derived.Test.YtnhjplfdfbbihaaCcG
namespace Go.Proofs.Ytnhjplfdfbbihaa
open Go.RowKit Go.Shelf Go.Maps Go.ChangeShapes
set_option linter.unusedVariables false
set_option linter.unusedSimpArgs false
theorem goneN_skip {L : List Nt} {g : Int} {q : Nat} {x : Nt} (hx : L[q]? = some x) (hg : x.id = g) : goneN (L.take (q + 1)) g = goneN (L.take q) g := by
  rw [List.take_add_one, hx]
  unfold goneN
  rw [List.filterMap_append]
  simp [hg]
theorem goneN_next {L : List Nt} {g : Int} {q : Nat} {x : Nt} (hx : L[q]? = some x) (hg : ¬ x.id = g) : goneN (L.take (q + 1)) g = goneN (L.take q) g ++ [if x.to = g then ⟨x.id, x.op, x.f, 0⟩ else x] := by
  rw [List.take_add_one, hx]
  unfold goneN
  rw [List.filterMap_append]
  simp [hg]
theorem flatN_app (L M : List Nt) : flatN (L ++ M) = flatN L ++ flatN M := by unfold flatN; rw [List.flatMap_append]
theorem goneN_take_len (L : List Nt) (g : Int) (q : Nat) : (goneN (L.take q) g).length ≤ L.length := by
  have h1 := goneN_len (L.take q) g
  have h2 : (L.take q).length ≤ L.length := by rw [List.length_take]; exact Nat.min_le_right _ _
  omega
set_option maxRecDepth 100000 in
set_option maxHeartbeats 8000000 in
theorem gone_any {w : World} {B c n : Nat} {rs : List Rt} {S : Bk} (h : RA w B c rs S) (ho : Ok S n) (hn : n ≤ 1048576) (hBw : B ≤ w.heap.size) {i : Nat} (hi : i < rs.length) :
    Calls Try.prog 37 #[.pointer (some ⟨c, 0, none⟩), .int .i64 i] w fun e w' => e = .returned (.tuple #[]) ∧ RA w' B c (rs.eraseIdx i) (goneB S i) ∧ Gm B pR false w w' := by
  have hlen := h.len ho
  have habs := h.abs
  obtain ⟨rv, nv, pa, pcap, pf, used, hp, hpk, hus⟩ := h.ex
  obtain ⟨r, hr⟩ : ∃ r, rs[i]? = some r := ⟨_, List.getElem?_eq_getElem hi⟩
  have hid2 : idAt S.rows i = r.1 := idAt_of habs hr
  obtain ⟨ra, rc, rfl, _⟩ := own_slice hp.rows
  obtain ⟨g, rfl⟩ : ∃ g, ra = some ⟨g, 0, none⟩ := by
    obtain ⟨g, c', e1, _⟩ := own_cells hp.rows (j := i * 18) (List.getElem?_eq_getElem (by rw [flatR_len]; omega))
    cases e1; exact ⟨g, rfl⟩
  have k0 : w.cell? ⟨c, 0, none⟩ = some (.slice (some ⟨g, 0, none⟩) rs.length rc) := at_cells hp.blk 0 rfl
  have k1 : w.cell? ⟨g, i * 18, none⟩ = some (.int .i64 r.1) := rowR_at hp.rows hr 0 _ rfl
  have hiI : (i : Int) < rs.length := by omega
  have HP : Hid (RP w B c (.slice (some ⟨g, 0, none⟩) rs.length rc) nv S.lim pa pcap pf used S.last S.top rs S.notes ∧ B ≤ w.heap.size ∧ rs.length ≤ 1000 ∧ i < rs.length) := ⟨hp, hBw, hlen, hi⟩
  have HS : Hid (rs.map absR = S.rows ∧ pf.drop used = S.pk ∧ used ≤ pf.length ∧ idAt S.rows i = r.1 ∧ S.notes.length ≤ 1048576) := ⟨habs, hpk, hus, hid2, by have := ho.nn; omega⟩
  clear h ho hn hBw hlen habs hp hpk hus hr hid2 hi
  go_enter Try.func37, Try.ntmps37
  go_upto_region 1 with fail
  clear k0 k1
  generalize r.1 = gid at *
  refine gone_rows HP.out.1 HP.out.2.1 HP.out.2.2.1 HP.out.2.2.2 (hid ?_)
  intro W2 rv' hP2 g2 n16 n17 n18 n19 n20 n21 n22 n23 n24 n25 n26 n27 n28 n29 n30 n31 n32 n33
  obtain ⟨ns, hns⟩ : ∃ ns, ns = S.notes := ⟨_, rfl⟩
  rw [← hns] at hP2
  obtain ⟨na, nc, rfl, _⟩ := own_slice hP2.notes
  have HP2 : Hid (RP W2 B c rv' (.slice na ns.length nc) S.lim pa pcap pf used S.last S.top (rs.eraseIdx i) ns ∧ Gm B pR false w W2 ∧ B ≤ W2.heap.size ∧ ns = S.notes) := ⟨hP2, g2, Nat.le_trans HP.out.2.1 g2.size, hns⟩
  have k1 : W2.cell? ⟨c, 1, none⟩ = some (.slice na ns.length nc) := at_cells hP2.blk 1 rfl
  have z1 : W2.frozen? ⟨c, 1, none⟩ = false := frz hP2.blk
  have hnl : ns.length ≤ 1048576 := by rw [hns]; exact HS.out.2.2.2.2
  have hnI : (ns.length : Int) ≤ 1048576 := by omega
  have HNL : Hid (ns.length ≤ 1048576) := hnl
  obtain ⟨ie, i1, i2, i3, i4⟩ := info_parts ci101
  have HIE : Hid (Try.prog.info? 101 = some ie ∧ ie.zero = some (.agg #[.int .i64 0, .int .i64 0, .int .i64 0, .int .i64 0]) ∧ ie.size = 4 ∧ ie.bytes = 32) := ⟨i1, i2, i3, i4⟩
  have F0 : Hid (Fr [] W2 W2) := Fr.refl _ _
  have H0 : Hid (W2.ownsRow W2.heap.size 101 4 (.slice none 0 0) 0 []) := World.ownsRow_nil _ _ _ _
  clear hP2 g2 hns hnl i1 i2 i3 i4
  go_wp2
  clear k1 z1
  go_loopw [5, 39] (fun lv i' wr => ∃ q : Nat, q ≤ ns.length ∧ i' = .int .i64 q ∧ Hid (Fr [] W2 wr ∧ wr.ownsRow W2.heap.size 101 4 lv (goneN (ns.take q) gid).length (flatN (goneN (ns.take q) gid)))) (fun _ i _ => ns.length - (intOf i).toNat)
  case atStart => exact ⟨0, Nat.zero_le _, rfl, F0.out, H0.out⟩
  case round =>
    obtain ⟨q, hq, rfl, F⟩ := hrel
    clear F0 H0
    obtain ⟨la, lc, rfl, _⟩ := own_slice F.out.2
    by_cases hlt : q < ns.length
    · have hltI : (q : Int) < ns.length := by omega
      obtain ⟨x, hx⟩ : ∃ x, ns[q]? = some x := ⟨_, List.getElem?_eq_getElem hlt⟩
      obtain ⟨g, rfl⟩ : ∃ g, na = some ⟨g, 0, none⟩ := by
        obtain ⟨g, c', e1, _⟩ := own_cells HP2.out.1.notes (j := q * 4) (List.getElem?_eq_getElem (by rw [flatN_len]; omega))
        cases e1; exact ⟨g, rfl⟩
      have R1 : Hid (wr.rangeAt g (q * 4) x.cl) := rowN_at (own_fr HP2.out.1.notes F.out.1 (by simp)) hx
      have bA := heap_alloc_new wr (.cells #[.int .i64 0, .int .i64 0, .int .i64 0, .int .i64 0] 101)
      have FB : Fr [] wr ((wr.alloc (.cells #[.int .i64 0, .int .i64 0, .int .i64 0, .int .i64 0] 101)).setRow wr.heap.size (ntc x)) := ((Fr.refl _ _).alloc _).setRow (.inr (Nat.le_refl _)) _
      have bB := setRow_heap (wr.alloc (.cells #[.int .i64 0, .int .i64 0, .int .i64 0, .int .i64 0] 101)) wr.heap.size _ (ntc x) _ _ bA
      have HA : Hid ((wr.alloc (.cells #[.int .i64 0, .int .i64 0, .int .i64 0, .int .i64 0] 101)).heap[wr.heap.size]? = some (.cells #[.int .i64 0, .int .i64 0, .int .i64 0, .int .i64 0] 101 (0, 0))) := bA
      have HBX : Hid (((wr.alloc (.cells #[.int .i64 0, .int .i64 0, .int .i64 0, .int .i64 0] 101)).setRow wr.heap.size (ntc x)).heap[wr.heap.size]? = some (.cells (ntc x) 101 (0, 0)) ∧ W2.heap.size ≤ wr.heap.size) := ⟨bB, F.out.1.size⟩
      have c0 : ((wr.alloc (.cells #[.int .i64 0, .int .i64 0, .int .i64 0, .int .i64 0] 101)).setRow wr.heap.size (ntc x)).cell? ⟨wr.heap.size, 0, none⟩ = some (.int .i64 x.id) := at_cells bB 0 rfl
      have c3 : ((wr.alloc (.cells #[.int .i64 0, .int .i64 0, .int .i64 0, .int .i64 0] 101)).setRow wr.heap.size (ntc x)).cell? ⟨wr.heap.size, 3, none⟩ = some (.int .i64 x.to) := at_cells bB 3 rfl
      have z3 : ((wr.alloc (.cells #[.int .i64 0, .int .i64 0, .int .i64 0, .int .i64 0] 101)).setRow wr.heap.size (ntc x)).frozen? ⟨wr.heap.size, 3, none⟩ = false := frz bB
      have HX : Hid (ns[q]? = some x) := hx
      have HF : Hid (Fr [] W2 ((wr.alloc (.cells #[.int .i64 0, .int .i64 0, .int .i64 0, .int .i64 0] 101)).setRow wr.heap.size (ntc x)) ∧ ((wr.alloc (.cells #[.int .i64 0, .int .i64 0, .int .i64 0, .int .i64 0] 101)).setRow wr.heap.size (ntc x)).ownsRow W2.heap.size 101 4 (.slice la (goneN (ns.take q) gid).length lc) (goneN (ns.take q) gid).length (flatN (goneN (ns.take q) gid))) := ⟨F.out.1.trans FB, own_fr F.out.2 FB (by simp)⟩
      have HLB : Hid (∀ k, (Value.slice la (goneN (ns.take q) gid).length lc).ownBlock = some k → k < wr.heap.size) := fun k hk => (F.out.2.lt k hk).2
      clear bA bB FB hx F
      go_upto_region 6 with (first
        | refine wpList_ldN rfl (.tmp 41) rfl g (q * 4) rfl x R1.out ?_
        | refine wpList_store_row rfl 101 (.tmp 7) (.tmp 42) rfl wr.heap.size (ntc x) rfl rfl 101 _ HA.out (by rw [info101]; rfl) rfl (ntc_one x) ?_)
      clear R1 HA
      have HOB : Hid (¬ (Value.slice la (goneN (ns.take q) gid).length lc).ownBlock = some wr.heap.size) := by
        have hl := HLB.out
        exact fun e => absurd (hl _ e) (Nat.lt_irrefl _)
      generalize (wr.alloc (.cells #[.int .i64 0, .int .i64 0, .int .i64 0, .int .i64 0] 101)).setRow wr.heap.size (ntc x) = X at *
      generalize wr.heap.size = bx at *
      by_cases h1 : x.id = gid
      · have HN : Hid (Fr [] W2 X ∧ X.ownsRow W2.heap.size 101 4 (.slice la (goneN (ns.take q) gid).length lc) (goneN (ns.take (q + 1)) gid).length (flatN (goneN (ns.take (q + 1)) gid))) := by
          show _ ∧ _
          rw [goneN_skip HX.out h1]
          exact HF.out
        rw [h1] at c0
        clear HF HX HBX h1 z3 c3
        generalize (goneN (ns.take q) gid).length = M at *
        go_wp2
        go_roundw
        case rel => exact ⟨q + 1, hlt, by go_num, HN⟩
        case measure => simp [intOf]; omega
      · have hb1 : (x.id == gid) = false := beq_int_false h1
        have HML : Hid ((goneN (ns.take q) gid).length ≤ 1048576) := Nat.le_trans (goneN_take_len _ _ _) HNL.out
        by_cases h2 : x.to = gid
        · have hcell := set_blk (i := 3) (v := .int .i64 0) HBX.out.1
          have f3 : Fr [bx] X (X.setCell ⟨bx, 3, none⟩ (.int .i64 0)) := (Fr.refl _ _).setCell (.inl (by simp)) _
          have hfx : Fr [] W2 (X.setCell ⟨bx, 3, none⟩ (.int .i64 0)) := (HF.out.1.sub (T := [bx]) (by simp)).trans f3 |>.sub (fun k hk => by
            have : k = bx := by simpa using hk
            have := HBX.out.2
            right; omega)
          have hox : (X.setCell ⟨bx, 3, none⟩ (.int .i64 0)).ownsRow W2.heap.size 101 4 (.slice la (goneN (ns.take q) gid).length lc) (goneN (ns.take q) gid).length (flatN (goneN (ns.take q) gid)) := by
            refine own_fr HF.out.2 f3 (fun k hk hm => ?_)
            have : k = bx := by simpa using hm
            subst this
            exact HOB.out hk
          have HY : Hid ((X.setCell ⟨bx, 3, none⟩ (.int .i64 0)).rangeAt bx 0 (⟨x.id, x.op, x.f, 0⟩ : Nt).cl) := range_block (A := ntc ⟨x.id, x.op, x.f, 0⟩) hcell
          have HG : Hid (goneN (ns.take (q + 1)) gid = goneN (ns.take q) gid ++ [⟨x.id, x.op, x.f, 0⟩]) := by rw [goneN_next HX.out h1, if_pos h2]; rfl
          have HFX : Hid (Fr [] W2 (X.setCell ⟨bx, 3, none⟩ (.int .i64 0)) ∧ (X.setCell ⟨bx, 3, none⟩ (.int .i64 0)).ownsRow W2.heap.size 101 4 (.slice la (goneN (ns.take q) gid).length lc) (goneN (ns.take q) gid).length (flatN (goneN (ns.take q) gid))) := ⟨hfx, hox⟩
          have hb2 : (x.to == gid) = true := by simp [h2]
          clear hcell f3 hfx hox HF HX HBX h1 h2
          obtain ⟨y, hy⟩ : ∃ y : Nt, y = ⟨x.id, x.op, x.f, 0⟩ := ⟨_, rfl⟩
          rw [← hy] at HY HG
          clear hy
          generalize x.id = xi at *
          generalize x.to = xt at *
          go_upto_region 9 with fail
          clear c0 c3 z3 hb1 hb2
          generalize X.setCell ⟨bx, 3, none⟩ (.int .i64 0) = XB at *
          generalize hGM : (goneN (ns.take q) gid).length = M at *
          have FA : Fr [] XB (XB.alloc (.cells (ntc y) 101)) := (Fr.refl _ _).alloc _
          have HO1 : Hid ((XB.alloc (.cells (ntc y) 101)).ownsRow W2.heap.size 101 4 (.slice la M lc) M (flatN (goneN (ns.take q) gid))) := own_fr HFX.out.2 FA (by simp)
          have HR1 : Hid (∀ (j : Nat) u, y.cl[j]? = some u → (XB.alloc (.cells (ntc y) 101)).cell? ((⟨XB.heap.size, 0, none⟩ : Addr).add j) = some u) := fun j u hu => by have := range_block (heap_alloc_new XB (.cells (ntc y) 101)) j u (by simpa [ntc] using hu); rw [Addr.add_mid]; exact this
          have HFA : Hid (Fr [] W2 (XB.alloc (.cells (ntc y) 101)) ∧ W2.heap.size ≤ (XB.alloc (.cells (ntc y) 101)).heap.size) := ⟨HFX.out.1.trans FA, (HFX.out.1.trans FA).size⟩
          have HGM : Hid ((goneN (ns.take q) gid).length = M) := hGM
          clear FA HFX hGM
          go_wp2_with (first
            | refine wpList_ldN rfl (.tmp 7) rfl bx 0 rfl y HY.out ?_
            | refine wpList_slice1 rfl 46 101 4 32 (.tmp 53) (ntc y) _ rfl rfl cu46n ci101 (by decide) (by decide) (ntc_size y) ?_
            | (refine wpList_append_fp _ rfl (.tmp 52) (.tmp 54) 46 rfl W2.heap.size 101 ie (.agg #[.int .i64 0, .int .i64 0, .int .i64 0, .int .i64 0]) 4 32 cu46n HIE.out.1 HIE.out.2.1 HIE.out.2.2.1 HIE.out.2.2.2 rfl (by decide) (.slice la M lc) M (flatN (goneN (ns.take q) gid)) rfl HO1.out ⟨XB.heap.size, 0, none⟩ 1 1 y.cl rfl rfl HR1.out (by simp [Nt.cl, Value.oneCell']) (by have := HML.out; simp only [maxLen]; omega) (by have := HML.out; omega) HFA.out.2 ?_; intro v5 w5 o5 g5 l5; have HN : Hid (Fr [] W2 w5 ∧ w5.ownsRow W2.heap.size 101 4 v5 (goneN (ns.take (q + 1)) gid).length (flatN (goneN (ns.take (q + 1)) gid))) := ⟨HFA.out.1.grown g5 (fun k e => .inr (HO1.out.lt k e).1), by rw [HG.out, flatN_app, List.length_append, HGM.out]; simpa [flatN] using o5⟩; clear o5 g5 l5 HO1 HR1 HFA))
          clear HY HG
          go_roundw
          case rel => exact ⟨q + 1, hlt, by go_num, HN⟩
          case measure => simp [intOf]; omega
        · have hb2 : (x.to == gid) = false := beq_int_false h2
          have HY : Hid (X.rangeAt bx 0 x.cl) := range_block (A := ntc x) HBX.out.1
          have HG : Hid (goneN (ns.take (q + 1)) gid = goneN (ns.take q) gid ++ [x]) := by rw [goneN_next HX.out h1, if_neg h2]; rfl
          have HFX : Hid (Fr [] W2 X ∧ X.ownsRow W2.heap.size 101 4 (.slice la (goneN (ns.take q) gid).length lc) (goneN (ns.take q) gid).length (flatN (goneN (ns.take q) gid))) := HF.out
          clear HF HX HBX h1 h2
          obtain ⟨y, hy⟩ : ∃ y : Nt, y = x := ⟨_, rfl⟩
          rw [← hy] at HY HG
          rw [← hy] at c0 c3 hb1 hb2
          generalize y.id = xi at c0 hb1
          generalize y.to = xt at c3 hb2
          clear hy
          go_upto_region 9 with fail
          clear c0 c3 z3 hb1 hb2
          obtain ⟨XB, hXB⟩ : ∃ XB, XB = X := ⟨_, rfl⟩
          subst hXB
          generalize hGM : (goneN (ns.take q) gid).length = M at *
          have FA : Fr [] XB (XB.alloc (.cells (ntc y) 101)) := (Fr.refl _ _).alloc _
          have HO1 : Hid ((XB.alloc (.cells (ntc y) 101)).ownsRow W2.heap.size 101 4 (.slice la M lc) M (flatN (goneN (ns.take q) gid))) := own_fr HFX.out.2 FA (by simp)
          have HR1 : Hid (∀ (j : Nat) u, y.cl[j]? = some u → (XB.alloc (.cells (ntc y) 101)).cell? ((⟨XB.heap.size, 0, none⟩ : Addr).add j) = some u) := fun j u hu => by have := range_block (heap_alloc_new XB (.cells (ntc y) 101)) j u (by simpa [ntc] using hu); rw [Addr.add_mid]; exact this
          have HFA : Hid (Fr [] W2 (XB.alloc (.cells (ntc y) 101)) ∧ W2.heap.size ≤ (XB.alloc (.cells (ntc y) 101)).heap.size) := ⟨HFX.out.1.trans FA, (HFX.out.1.trans FA).size⟩
          have HGM : Hid ((goneN (ns.take q) gid).length = M) := hGM
          clear FA HFX hGM
          go_wp2_with (first
            | refine wpList_ldN rfl (.tmp 7) rfl bx 0 rfl y HY.out ?_
            | refine wpList_slice1 rfl 46 101 4 32 (.tmp 53) (ntc y) _ rfl rfl cu46n ci101 (by decide) (by decide) (ntc_size y) ?_
            | (refine wpList_append_fp _ rfl (.tmp 52) (.tmp 54) 46 rfl W2.heap.size 101 ie (.agg #[.int .i64 0, .int .i64 0, .int .i64 0, .int .i64 0]) 4 32 cu46n HIE.out.1 HIE.out.2.1 HIE.out.2.2.1 HIE.out.2.2.2 rfl (by decide) (.slice la M lc) M (flatN (goneN (ns.take q) gid)) rfl HO1.out ⟨XB.heap.size, 0, none⟩ 1 1 y.cl rfl rfl HR1.out (by simp [Nt.cl, Value.oneCell']) (by have := HML.out; simp only [maxLen]; omega) (by have := HML.out; omega) HFA.out.2 ?_; intro v5 w5 o5 g5 l5; have HN : Hid (Fr [] W2 w5 ∧ w5.ownsRow W2.heap.size 101 4 v5 (goneN (ns.take (q + 1)) gid).length (flatN (goneN (ns.take (q + 1)) gid))) := ⟨HFA.out.1.grown g5 (fun k e => .inr (HO1.out.lt k e).1), by rw [HG.out, flatN_app, List.length_append, HGM.out]; simpa [flatN] using o5⟩; clear o5 g5 l5 HO1 HR1 HFA))
          clear HY HG
          go_roundw
          case rel => exact ⟨q + 1, hlt, by go_num, HN⟩
          case measure => simp [intOf]; omega
    · obtain rfl : q = ns.length := by omega
      have HE : Hid (Fr [] W2 wr ∧ wr.ownsRow W2.heap.size 101 4 (.slice la (goneN ns gid).length lc) (goneN ns gid).length (flatN (goneN ns gid))) := by
        have := F.out
        rw [List.take_length] at this
        exact this
      rw [List.take_length]
      clear F
      obtain ⟨M, hM⟩ : ∃ M, (goneN ns gid).length = M := ⟨_, rfl⟩
      have HM : Hid ((goneN ns gid).length = M) := hM
      rw [hM] at HE ⊢
      clear hM
      have k1 : wr.cell? ⟨c, 1, none⟩ = some (.slice na ns.length nc) := HE.out.1.cellNew HP2.out.1.blk (by simp) rfl
      have z1 : wr.frozen? ⟨c, 1, none⟩ = false := HE.out.1.frzNew HP2.out.1.blk (by simp)
      have hbw := (HE.out.1.block _ (Array.getElem?_eq_some_iff.1 HP2.out.1.blk).1 (by simp)).trans HP2.out.1.blk
      have f3 : Fr [c] wr (wr.setCell ⟨c, 1, none⟩ (.slice la M lc)) := (Fr.refl _ _).setCell (.inl (by simp)) _
      have hb3 := set_blk (i := 1) (v := .slice la M lc) hbw
      have hA : Away wr B [c] := away_cells hbw rfl HP2.out.1.cB
      have hP3 := HP2.out.1.fr0 HE.out.1
      have hro : ∀ k, rv'.ownBlock = some k → k ∉ [c] := fun k hk hm => by
        have : k = c := by simpa using hm
        subst this
        exact own_ne hP3.rows hbw (by decide) hk
      have hno : ∀ k, (Value.slice la M lc).ownBlock = some k → k ∉ [c] := fun k hk hm => by
        have : k = c := by simpa using hm
        subst this
        exact own_ne HE.out.2 hbw (by decide) hk
      have HFIN : Hid (RA (wr.setCell ⟨c, 1, none⟩ (.slice la M lc)) B c (rs.eraseIdx i) (goneB S i) ∧ Gm B pR false w (wr.setCell ⟨c, 1, none⟩ (.slice la M lc))) := by
        refine ⟨⟨⟨rv', .slice la M lc, pa, pcap, pf, used, ?_, HS.out.2.1, HS.out.2.2.1⟩, ?_⟩, (HP2.out.2.1.trans (Gm.ofFr0 HE.out.1)).trans (Gm.ofFr f3 (fun k hm => by
          have : k = c := by simpa using hm
          subst this
          exact .inr ⟨HP2.out.1.cB, .inl ⟨_, _, _, hbw, rfl⟩⟩))⟩
        · have hnn : (goneB S i).notes = goneN ns gid := by
            show goneN S.notes (idAt S.rows i) = _
            rw [HS.out.2.2.2.1, HP2.out.2.2.2]
          rw [hnn]
          exact ⟨hb3, own_fr hP3.rows f3 hro, by rw [HM.out]; exact own_fr (own_low HE.out.2 HP2.out.2.2.1) f3 hno, hP3.pick.fr f3 hA, fun r hr => (hP3.trs r hr).fr f3 hA, hP3.cB⟩
        · rw [← map_eraseA, HS.out.1]
          rfl
      clear hbw f3 hb3 hA hP3 hro hno HE HP2 HS
      go_wp2
      go_end0
      exact ⟨rfl, HFIN.out.1, HFIN.out.2⟩
end Go.Proofs.Ytnhjplfdfbbihaa
