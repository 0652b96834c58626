/-
  The least of what is counted, by the program: the loop; condition: no key stands twice.
-/
import Derived.Test.YtjeddgjndpdhoaaPrI
import Derived.Deep.Cut
namespace Go.Proofs.Ytjeddgjndpdhoaa
open Go.RowKit Go.Shelf Go.Maps Go.ChangeShapes
set_option linter.unusedVariables false
set_option linter.unusedSimpArgs false

def k0 : Ky := (0, 0, 0, 0, 0, 0, 0, 0, 0, 0)
theorem kc0 : kc k0 = #[.int .i64 0, .int .i64 0, .int .i64 0, .int .i64 0, .int .i64 0, .int .i64 0, .int .i64 0, .int .i64 0, .int .i64 0, .int .i64 0] := rfl
theorem setRow_alloc_two (w : World) (c c' : Array Value) (t : TypeId) (o : Obj) : ((w.alloc (.cells c t)).alloc o).setRow w.heap.size c' = (w.alloc (.cells c' t)).alloc o := by
  unfold World.setRow World.alloc
  congr 1
  apply Array.ext_getElem?
  intro i
  simp only [Array.getElem?_modify, Array.getElem?_push, Array.size_push]
  by_cases h1 : i = w.heap.size + 1
  · subst h1; simp
  · by_cases h2 : i = w.heap.size
    · subst h2; simp
    · simp [h1, h2, Ne.symm h2]
theorem Fr.over {S T : List Nat} {a b c : World} (h : Fr S a b) (k : Fr T b c) (hT : ∀ i, i ∈ T → i ∈ S ∨ a.heap.size ≤ i) : Fr S a c :=
  ⟨k.os.trans h.os, k.tape.trans h.tape, k.output.trans h.output, Nat.le_trans h.size k.size, fun i hi hS => (k.block i (Nat.lt_of_lt_of_le hi h.size) (fun hm => by rcases hT i hm with h1 | h1; exact hS h1; omega)).trans (h.block i hi hS)⟩
theorem ranges_fr {S : List Nat} {w w' : World} {b r n cnt : Nat} {D : DataW Unit} {left : Lit → Bool} (h : w.ranges Try.prog 28 tElem b r n D left cnt) (f : Fr S w w') (h1 : b ∉ S) (h2 : r ∉ S) : w'.ranges Try.prog 28 tElem b r n D left cnt := by
  obtain ⟨es, clock, since, seen, c0, hb, F, hs, hD, hr, rest⟩ := h
  exact ⟨es, clock, since, seen, c0, (f.block b (Array.getElem?_eq_some_iff.1 hb).1 h1).trans hb, F, hs, hD, (f.block r (Array.getElem?_eq_some_iff.1 hr).1 h2).trans hr, rest⟩
def Z28 : Array Value := #[.int .i64 0, .int .i64 0, .int .i64 0, .int .i64 0, .int .i64 0, .int .i64 0, .int .i64 0, .int .i64 0, .int .i64 0, .int .i64 0]
def Z60 : Array Value := #[.int .i64 0, .int .i64 0]
def LRel (w wr : World) (mb : Nat) (L : List Rw) (D : DataW Unit) (f : Value) : Prop := ∃ (left : Lit → Bool) (cnt : Nat) (k : Ky) (n s : Int) (fb : Bool), f = .bool fb ∧ Hid (wr.ranges Try.prog 28 tElem mb (w.heap.size + 3) L.length D left cnt) ∧ Hid (Fr [] w wr) ∧ Hid (wr.heap[w.heap.size]? = some (.cells (kc k0) 28 (0, 0))) ∧ Hid (wr.heap[w.heap.size + 1]? = some (.cells (kc k) 28 (0, 0))) ∧ Hid (wr.heap[w.heap.size + 2]? = some (.cells #[.int .i64 n, .int .i64 s] 60 (0, 0))) ∧ Hid (Lst L left fb k n s)
def LeastOut (w : World) (L : List Rw) (e : Ending) (w' : World) : Prop := ∃ r ∈ L, e = .returned (.agg (kc r.k)) ∧ (∀ q ∈ L, ¬ lexLt q.n q.s r.n r.s) ∧ Fr [] w w'
set_option maxRecDepth 100000 in
set_option maxHeartbeats 1000000 in
theorem least_any {w : World} {mb : Nat} {L : List Rw} (h : CM w mb L) (hn : Nd L) (hw : ∀ r ∈ L, kw r.k) (hne : L ≠ []) :
    Calls Try.prog 27 #[.map (some mb), .func (.func 28) #[] #[]] w (LeastOut w L) := by
  obtain ⟨D, ho, hs, hD, hE⟩ := h.ex
  have hmb := h.lt
  obtain ⟨W, hW⟩ : ∃ W, W = ((w.alloc (.cells (kc k0) 28)).alloc (.cells (kc k0) 28)).alloc (.cells #[.int .i64 0, .int .i64 0] 60) := ⟨_, rfl⟩
  have F : Fr [] w W := by rw [hW]; exact (((Fr.refl [] w).alloc _).alloc _).alloc _
  have hsz : W.heap.size = w.heap.size + 3 := by rw [hW]; simp
  have b0 : W.heap[w.heap.size]? = some (.cells (kc k0) 28 (0, 0)) := by rw [hW]; exact (Below.heap_alloc _ _ _ (by simp; omega)).trans ((Below.heap_alloc _ _ _ (by simp)).trans (heap_alloc_new _ _))
  have b1 : W.heap[w.heap.size + 1]? = some (.cells (kc k0) 28 (0, 0)) := by rw [hW]; exact (Below.heap_alloc _ _ _ (by simp)).trans (blk2 _ _ _)
  have b2 : W.heap[w.heap.size + 2]? = some (.cells #[.int .i64 0, .int .i64 0] 60 (0, 0)) := by
    rw [hW]
    have := heap_alloc_new ((w.alloc (.cells (kc k0) 28)).alloc (.cells (kc k0) 28)) (.cells #[.int .i64 0, .int .i64 0] 60)
    simpa using this
  have hoW : W.ownsMap Try.prog 28 tElem mb L.length D := by
    obtain ⟨es, clock, hb, r⟩ := ho
    exact ⟨es, clock, (F.block mb hmb (by simp)).trans hb, r⟩
  rw [kc0] at hW
  have HH : Hid (W = _) := hW
  have HF : Hid (Fr [] w W) := F
  have HSZ : Hid (W.heap.size = w.heap.size + 3) := hsz
  have B0 : Hid _ := b0
  have B1 : Hid _ := b1
  have B2 : Hid _ := b2
  have HO : Hid _ := hoW
  have HMB : Hid (mb < w.heap.size) := hmb
  clear hW F hsz b0 b1 b2 hoW ho h hmb hs
  go_enter Try.func27, Try.ntmps27
  go_wp2_with (first
    | (at_range; refine wpList_range_own _ rfl _ 51 rfl 28 60 law28 under51 _ mb L.length D rfl (by rw [← HH.out]; exact HO.out) ?_; intro w0 hrg0 hg0 hs0)
    | go_in)
  go_frame
  rw [← HH.out, HSZ.out] at hrg0 hs0 ⊢
  rw [← HH.out] at hg0
  have HG0 : Hid (Fr [] W w0) := Fr.grown (Fr.refl _ _) hg0 (fun k e => by cases e)
  have HR0 : Hid (w0.ranges Try.prog 28 tElem mb (w.heap.size + 3) L.length D (Maps.has D) (Maps.size D)) := hrg0
  clear hg0 hrg0 hs0
  go_loopw [7, 8, 9] (fun f _ _ wr => LRel w wr mb L D f)
    (fun _ _ _ wr => wr.rangeLeft mb (w.heap.size + 3))
  case atStart =>
    refine ⟨_, _, k0, 0, 0, true, rfl, HR0, HF.out.trans HG0.out, (HG0.out.block _ (by rw [HSZ.out]; omega) (by simp)).trans B0.out, (HG0.out.block _ (by rw [HSZ.out]; omega) (by simp)).trans B1.out, (HG0.out.block _ (by rw [HSZ.out]; omega) (by simp)).trans B2.out, .inl ⟨rfl, fun q hq => ?_⟩⟩
    rw [(hD q.k (hw q hq)).1]
    exact has_iff.2 ⟨q, hq, rfl⟩
  case round =>
    obtain ⟨left, cnt, k, n, s, fb, rfl, hrg, hF, hR, hK, hT, hL⟩ := hrel
    go_wp2_with (first
      | (at_next; refine next_row rfl _ rfl hn hE hD rfl hrg.out ?_ ?_)
      | go_in)
    · intro hl0
      have hfin : ∃ r ∈ L, r.k = k ∧ ∀ q ∈ L, ¬ lexLt q.n q.s r.n r.s := by
        rcases hL.out with ⟨_, h2⟩ | ⟨_, r, hr, e1, e2, e3, h2⟩
        · cases L with
          | nil => exact absurd rfl hne
          | cons q L => have := h2 q (by simp); rw [hl0] at this; cases this
        · exact ⟨r, hr, e1, fun q hq => by have := h2 q hq (hl0 _); rw [e2, e3]; exact this⟩
      have HFIN : Hid _ := hfin
      have hb4 : wr.heap[w.heap.size]? = some (.cells (kc k0) 28 (0, 0)) := hR.out
      have HLT : Hid (wr.heap.size > w.heap.size) := (Array.getElem?_eq_some_iff.1 hR.out).1
      clear hfin hL hl0 hrg
      go_wp2_with (first
        | refine wpList_load_row rfl 28 (.tmp 5) rfl (w.heap.size + 1) rfl 28 (kc k) (0, 0) _ hK.out Try.underlying28 rfl (by rw [info28, kc_size]) ?_
        | refine wpList_store_row rfl 28 (.tmp 4) (.tmp 27) rfl w.heap.size (kc k) rfl rfl 28 _ hb4 (by rw [info28, kc_size]) (by rw [kc_size, kc_size]) (kc_one k) ?_)
      obtain ⟨r, hr, e1, h2⟩ := HFIN.out
      refine bodyPost_ret (results_cell_row rfl _ _ w.heap.size 28 (kc k) (0, 0) _ rfl (row_new hb4) Try.underlying28 rfl (by rw [info28, kc_size])) rfl ⟨r, hr, by rw [e1], h2, hF.out.setRow (.inr (Nat.le_refl _)) _⟩
    · intro q w1 cnt1 hq hqk hql hrg1 hlt hg1 hs1 hen
      have hsw : wr.heap.size ≥ w.heap.size + 3 := by have := hrg.out.lt; omega
      have hF1 : Fr [] w w1 := Fr.grown hF.out hg1 (fun k e => by cases e; exact .inr (by omega))
      have hR1 : w1.heap[w.heap.size]? = some (.cells (kc k0) 28 (0, 0)) := (hg1.block _ (by omega) (fun e => by have := Option.some.inj e; omega)).trans hR.out
      have hK1 : w1.heap[w.heap.size + 1]? = some (.cells (kc k) 28 (0, 0)) := (hg1.block _ (by omega) (fun e => by have := Option.some.inj e; omega)).trans hK.out
      have hT1 : w1.heap[w.heap.size + 2]? = some (.cells #[.int .i64 n, .int .i64 s] 60 (0, 0)) := (hg1.block _ (by omega) (fun e => by have := Option.some.inj e; omega)).trans hT.out
      have z1 : ((w1.alloc (.cells Z28 28)).alloc (.cells Z60 60)).heap[w1.heap.size]? = some (.cells Z28 28 (0, 0)) := (Below.heap_alloc _ _ _ (by simp)).trans (heap_alloc_new _ _)
      have HS1 : Hid (((w1.alloc (.cells Z28 28)).alloc (.cells Z60 60)).setRow w1.heap.size (kc q.k) = _) := setRow_alloc_two _ _ _ _ _
      have z2 : ((w1.alloc (.cells (kc q.k) 28)).alloc (.cells Z60 60)).heap[w1.heap.size + 1]? = some (.cells Z60 60 (0, 0)) := blk2 _ _ _
      have HS2 : Hid (((w1.alloc (.cells (kc q.k) 28)).alloc (.cells Z60 60)).setRow (w1.heap.size + 1) #[.int .i64 q.n, .int .i64 q.s] = (w1.alloc (.cells (kc q.k) 28)).alloc (.cells #[.int .i64 q.n, .int .i64 q.s] 60)) := by
        have := World.setRow_alloc_new (w1.alloc (.cells (kc q.k) 28)) Z60 #[.int .i64 q.n, .int .i64 q.s] 60
        rw [World.size_alloc] at this
        exact this
      obtain ⟨X, hX⟩ : ∃ X, X = (w1.alloc (.cells (kc q.k) 28)).alloc (.cells #[.int .i64 q.n, .int .i64 q.s] 60) := ⟨_, rfl⟩
      have FX : Fr [] w1 X := by rw [hX]; exact ((Fr.refl [] _).alloc _).alloc _
      have x8 : X.heap[w1.heap.size]? = some (.cells (kc q.k) 28 (0, 0)) := by rw [hX]; exact (Below.heap_alloc _ _ _ (by simp)).trans (heap_alloc_new _ _)
      have x9 : X.heap[w1.heap.size + 1]? = some (.cells #[.int .i64 q.n, .int .i64 q.s] 60 (0, 0)) := by rw [hX]; exact blk2 _ _ _
      have hXs : X.heap.size = w1.heap.size + 2 := by rw [hX]; simp
      have HX : Hid (X = _) := hX
      have HFX : Hid (Fr [] w1 X) := FX
      have HF1 : Hid (Fr [] w w1) := hF1
      have HR1 : Hid _ := hR1
      have HK1 : Hid _ := hK1
      have HT1 : Hid _ := hT1
      have X8 : Hid _ := x8
      have X9 : Hid _ := x9
      have HXS : Hid (X.heap.size = w1.heap.size + 2) := hXs
      have HW1 : Hid (w1.heap.size ≥ w.heap.size + 4) := by have := hrg.out.lt; unfold Hid; omega
      have HRG : Hid (w1.ranges Try.prog 28 tElem mb (w.heap.size + 3) L.length D (fun z => left z && !z.sameKey (kl q.k)) cnt1) := hrg1
      have HLT : Hid (cnt1 < cnt) := hlt
      clear hX FX hF1 hR1 hK1 hT1 x8 x9 hXs hs1 hsw hg1 hF hR hK hT hrg1 hlt hql
      unfold Z28 Z60 at z1 HS1 z2 HS2
      go_upto_region 7 with (first
        | (refine wpList_store_row rfl 28 (.tmp 8) (.tmp 15) rfl w1.heap.size (kc q.k) rfl rfl 28 _ z1 (by rw [info28, kc_size]) (by rw [kc_size]; rfl) (kc_one _) ?_; rw [HS1.out])
        | (refine wpList_store_row rfl 60 (.tmp 9) (.tmp 16) rfl (w1.heap.size + 1) #[.int .i64 q.n, .int .i64 q.s] rfl rfl 60 _ z2 (by rw [info60]; rfl) rfl (by simp [Value.oneCell']) ?_; rw [HS2.out, ← HX.out]))
      clear hen z1 z2 HS1 HS2 HX HH HF HSZ B0 B1 B2 HO HG0 HR0
      simp only [Act.put]
      -- what a world behind this round is, where nothing but the least's cells has changed
      have HEND : ∀ Y : World, Fr [w.heap.size + 1, w.heap.size + 2] X Y → Hid (Y.ranges Try.prog 28 tElem mb (w.heap.size + 3) L.length D (fun z => left z && !z.sameKey (kl q.k)) cnt1) ∧ Hid (Fr [] w Y) ∧ Hid (Y.heap[w.heap.size]? = some (.cells (kc k0) 28 (0, 0))) := by
        intro Y f
        have hm := HMB.out
        have hw1 := HW1.out
        have hx := HXS.out
        refine ⟨ranges_fr (ranges_fr HRG.out HFX.out (by simp) (by simp)) f (by simp; omega) (by simp), (HF1.out.trans HFX.out).over f (fun i hi => .inr (by simp at hi; omega)), ?_⟩
        · exact (f.block _ (by omega) (by simp)).trans ((HFX.out.block _ (by omega) (by simp)).trans HR1.out)
      have HM : Hid (∀ Y : World, Y.ranges Try.prog 28 tElem mb (w.heap.size + 3) L.length D (fun z => left z && !z.sameKey (kl q.k)) cnt1 → Y.rangeLeft mb (w.heap.size + 3) < wr.rangeLeft mb (w.heap.size + 3)) := by
        intro Y hY
        rw [hY.left_eq, hrg.out.left_eq]
        exact HLT.out
      clear hrg HLT HRG HR1
      cases fb with
      | true =>
        go_wp2_with fail
        refine reg27 (k := q.k) (n := q.n) (s := q.s) (kb := w.heap.size + 1) (tb := w.heap.size + 1 + 1) (k8 := w1.heap.size) (v9 := w1.heap.size + 1) ?_ ?_ ((HFX.out.block _ ?_ (by simp)).trans HK1.out) (kc_size _) ((HFX.out.block _ ?_ (by simp)).trans HT1.out) rfl (by omega) ?_
        · intro w' f j v hv
          have := HW1.out
          exact at_cells ((f.block _ (by rw [HXS.out]; omega) (by simp; omega)).trans X8.out) (0 + j) (by simpa using hv)
        · intro w' f j v hv
          have := HW1.out
          exact at_cells ((f.block _ (by rw [HXS.out]; omega) (by simp; omega)).trans X9.out) (0 + j) (by simpa using hv)
        · have := HW1.out; omega
        · have := HW1.out; omega
        · intro X2 f2 bK2 bT2
          obtain ⟨e1, e2, e3⟩ := HEND X2 f2
          have HL2 : Hid (Lst L (fun z => left z && !z.sameKey (kl q.k)) false q.k q.n q.s) := hL.out.take hn hw hq (.inl rfl)
          have BK2 : Hid _ := bK2
          have BT2 : Hid _ := bT2
          clear bK2 bT2 f2 HEND
          go_wp2
          go_roundw
          case rel => exact ⟨_, cnt1, q.k, q.n, q.s, false, rfl, e1, e2, e3, BK2, BT2, HL2⟩
          case measure => exact HM.out _ e1.out
      | false =>
        have a9 : ∀ j v, (#[Value.int .i64 q.n, Value.int .i64 q.s])[j]? = some v → X.cell? ⟨w1.heap.size + 1, j, none⟩ = some v := fun j v hv => at_cells X9.out j hv
        have d0 := a9 0 _ rfl
        have d1 := a9 1 _ rfl
        have hw1 : w1.heap.size ≥ w.heap.size + 4 := HW1.out
        have t6 : X.heap[w.heap.size + 1 + 1]? = some (.cells #[.int .i64 n, .int .i64 s] 60 (0, 0)) := (HFX.out.block _ (by omega) (by simp)).trans HT1.out
        have g0 := at_cells t6 0 rfl
        have g1 := at_cells t6 1 rfl
        have CB := byCount_any q.n q.s n s X
        unfold tv at CB
        have HW1' : Hid (w1.heap.size ≥ w.heap.size + 4) := hw1
        clear a9 t6 hw1
        go_wp2_with fail
        refine CB.mono ?_
        rintro e Y ⟨rfl, fY⟩
        have HFY : Hid (Fr [] X Y) := fY
        have HXY : Hid (X.heap.size ≤ Y.heap.size) := fY.size
        have HLX := lex_iff q.n q.s n s
        generalize orI (cmpI q.n n) (cmpI q.s s) = z at HLX
        clear CB fY d0 d1 g0 g1
        by_cases hz : z < 0
        · have HLL : Hid _ := HLX.1 hz
          have hz1 : decide (z < 0) = true := by simp [hz]
          clear HLX
          go_wp2_with fail
          refine reg27 (k := q.k) (n := q.n) (s := q.s) (kb := w.heap.size + 1) (tb := w.heap.size + 1 + 1) (k8 := w1.heap.size) (v9 := w1.heap.size + 1) ?_ ?_ ((HFY.out.block _ ?_ (by simp)).trans ((HFX.out.block _ ?_ (by simp)).trans HK1.out)) (kc_size _) ((HFY.out.block _ ?_ (by simp)).trans ((HFX.out.block _ ?_ (by simp)).trans HT1.out)) rfl (by omega) ?_
          · intro w' f j v hv
            have := HW1'.out
            have h3 := HXY.out
            have h4 := HXS.out
            exact at_cells ((f.block _ (by omega) (by simp; omega)).trans ((HFY.out.block _ (by omega) (by simp)).trans X8.out)) (0 + j) (by simpa using hv)
          · intro w' f j v hv
            have := HW1'.out
            have h3 := HXY.out
            have h4 := HXS.out
            exact at_cells ((f.block _ (by omega) (by simp; omega)).trans ((HFY.out.block _ (by omega) (by simp)).trans X9.out)) (0 + j) (by simpa using hv)
          · have := HW1'.out; have h4 := HXS.out; omega
          · have := HW1'.out; omega
          · have := HW1'.out; have h4 := HXS.out; omega
          · have := HW1'.out; omega
          · intro X2 f2 bK2 bT2
            obtain ⟨e1, e2, e3⟩ := HEND X2 ((HFY.out.sub (by simp)).trans f2)
            have HL2 : Hid (Lst L (fun z => left z && !z.sameKey (kl q.k)) false q.k q.n q.s) := hL.out.take hn hw hq (.inr HLL.out)
            have BK2 : Hid _ := bK2
            have BT2 : Hid _ := bT2
            clear bK2 bT2 f2 HEND
            go_wp2
            go_roundw
            case rel => exact ⟨_, cnt1, q.k, q.n, q.s, false, rfl, e1, e2, e3, BK2, BT2, HL2⟩
            case measure => exact HM.out _ e1.out
        · have HLL : Hid _ := fun h' => hz (HLX.2 h')
          have hz1 : decide (z < 0) = false := by simp [hz]
          obtain ⟨e1, e2, e3⟩ := HEND Y (HFY.out.sub (by simp))
          have HL2 : Hid (Lst L (fun z => left z && !z.sameKey (kl q.k)) false k n s) := hL.out.pass hn hw hq HLL.out
          have hx := HXS.out
          have hy := HXY.out
          have hv := HW1'.out
          have BK2 : Hid (Y.heap[w.heap.size + 1]? = some (.cells (kc k) 28 (0, 0))) := (HFY.out.block _ (by omega) (by simp)).trans ((HFX.out.block _ (by omega) (by simp)).trans HK1.out)
          have BT2 : Hid (Y.heap[w.heap.size + 2]? = some (.cells #[.int .i64 n, .int .i64 s] 60 (0, 0))) := (HFY.out.block _ (by omega) (by simp)).trans ((HFX.out.block _ (by omega) (by simp)).trans HT1.out)
          clear HLX HEND hx hy hv
          go_wp2
          go_roundw
          case rel => exact ⟨_, cnt1, k, n, s, false, rfl, e1, e2, e3, BK2, BT2, HL2⟩
          case measure => exact HM.out _ e1.out
end Go.Proofs.Ytjeddgjndpdhoaa
