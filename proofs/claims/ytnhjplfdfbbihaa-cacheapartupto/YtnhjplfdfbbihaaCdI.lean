/-
  What is held lies apart: the walk; condition: the trace lies as told.
-/
import Derived.Test.YtnhjplfdfbbihaaCdJ
namespace Go.Proofs.Ytnhjplfdfbbihaa
open Go.RowKit Go.Shelf Go.Maps Go.ChangeShapes
set_option linter.unusedVariables false
set_option linter.unusedSimpArgs false
theorem ci30 : (Try.prog.info? 55).map (fun i => (i.zero, i.size, i.bytes)) = some (some (.agg #[.int .i64 0, .slice none 0 0, .int .i64 0, .int .i64 0, .int .i64 0]), 5, 56) := by kernel_rfl
theorem cu30 : Try.prog.underlying 30 = some (.slice 55) := by kernel_rfl
set_option maxRecDepth 100000 in
set_option maxHeartbeats 16000000 in
theorem cacheApart_walk {W : World} (t : Tr) (ht : TrOk W W.heap.size t) (hat : ATOk t.abs) : Calls Try.prog 4 #[.agg t.arr] W fun e W' => e = .returned (.bool true) ∧ Fr [] W W' := by
  have F1 : Fr [] W (W.alloc (.cells t.arr 35)) := (Fr.refl _ _).alloc _
  have hx := heap_alloc_new W (.cells t.arr 35)
  have ht1 := ht.fr0 F1
  have HT0 : Hid (TrOk W W.heap.size t) := ht
  clear ht
  go_enter Try.func4, Try.ntmps4
  go_upto_region 1 with fail
  generalize W.alloc (.cells t.arr 35) = V0 at *
  have HW0 : Hid (W.heap.size = W.heap.size) := rfl
  generalize hWt : W.heap.size = tb at *
  have HW : Hid (W.heap.size = tb) := hWt
  clear hWt HW0
  have CA0 := awake_any V0
  have HX : Hid (V0.heap[tb]? = some (.cells t.arr 35 (0, 0)) ∧ Fr [] W V0 ∧ TrOk V0 tb t ∧ ATOk t.abs ∧ tb < V0.heap.size) := ⟨hx, F1, ht1, hat, (Array.getElem?_eq_some_iff.1 hx).1⟩
  clear hx F1 ht1 hat
  go_upto_region 3 with (go_at_call 7; refine CA0.mono ?_; rintro e w2 ⟨rfl, f2⟩; have HF2 : Hid (Fr [] V0 w2) := f2; clear f2 CA0)
  have hx2 := (HF2.out.block _ (Array.getElem?_eq_some_iff.1 HX.out.1).1 (by simp)).trans HX.out.1
  have HX2 : Hid (w2.heap[tb]? = some (.cells t.arr 35 (0, 0)) ∧ Fr [] W w2 ∧ TrOk w2 tb t ∧ ATOk t.abs ∧ tb < w2.heap.size) := ⟨hx2, HX.out.2.1.trans HF2.out, HX.out.2.2.1.fr0 HF2.out, HX.out.2.2.2.1, Nat.lt_of_lt_of_le HX.out.2.2.2.2 HF2.out.size⟩
  clear hx2 HX HF2
  have CS := size_any HX2.out.2.2.1
  have nO : (t.ops.length : Int) ≤ 140737488355328 := by have := HX2.out.2.2.1.ops.fit; omega
  have nI : (t.ins.length : Int) ≤ 140737488355328 := by have := HX2.out.2.2.1.ins.fit; omega
  go_wp2_with (first
    | refine wpList_ld35 rfl (.tmp 1) rfl tb rfl t.arr t.arr_size HX2.out.1 ?_
    | (go_at_call 8; refine CS.mono ?_; rintro e w3 ⟨sz, rfl, f3⟩; have hx3 := (f3.block _ HX2.out.2.2.2.2 (by simp)).trans HX2.out.1; have HX3 : Hid (w3.heap[tb]? = some (.cells t.arr 35 (0, 0)) ∧ Fr [] W w3 ∧ TrOk w3 tb t ∧ ATOk t.abs ∧ tb < w3.heap.size) := ⟨hx3, HX2.out.2.1.trans f3, HX2.out.2.2.1.fr0 f3, HX2.out.2.2.2.1, Nat.lt_of_lt_of_le HX2.out.2.2.2.2 f3.size⟩; have k13 := at_cells hx3 13 t.at_ops; have k12 := at_cells hx3 12 t.at_ins; clear hx3 f3 CS HX2; by_cases h5 : 500 < sz))
  · go_ret
    exact ⟨rfl, HX3.out.2.1⟩
  go_upto_region 5 with fail
  all_goals try (go_ret; exact ⟨rfl, HX3.out.2.1⟩)
  have CN := AwS.new (w := w3) (pk := []) 1 (SL.nil _ _ _ _ rfl) (by simp)
  change Calls Try.prog 9 #[.int .i64 1, .slice none 0 0] w3 _ at CN
  go_upto_region 8 with (go_at_call 9; refine CN.mono ?_; rintro e w4 ⟨c, rfl, h4⟩; have H4 : Hid (AwS w3 w3.heap.size c w4 0 ⟨limP 1, [], [], [], 0, 0⟩) := h4; clear h4 CN)
  clear k12 k13
  have hx4 := (H4.out.fr.block _ HX3.out.2.2.2.2 (by simp)).trans HX3.out.1
  have HX4 : Hid (w4.heap[tb]? = some (.cells t.arr 35 (0, 0)) ∧ Fr [] W w3 ∧ TrOk w4 w3.heap.size t ∧ ATOk t.abs ∧ tb < w4.heap.size) := ⟨hx4, HX3.out.2.1, (HX3.out.2.2.1.fr0 H4.out.fr).low (Nat.le_of_lt HX3.out.2.2.2.2), HX3.out.2.2.2.1, Nat.lt_of_lt_of_le HX3.out.2.2.2.2 H4.out.fr.size⟩
  have HA : Hid ((w4.alloc (.cells #[.int .i64 0, .int .i64 0, .int .i64 0, .int .i64 0, .int .i64 0, .int .i64 0, .int .i64 0, .int .i64 0, .int .i64 0, .int .i64 0, .int .i64 0, .int .i64 0, .slice none 0 0, .slice none 0 0, .slice none 0 0, .slice none 0 0, .slice none 0 0] 35)).heap[w4.heap.size]? = some (.cells #[.int .i64 0, .int .i64 0, .int .i64 0, .int .i64 0, .int .i64 0, .int .i64 0, .int .i64 0, .int .i64 0, .int .i64 0, .int .i64 0, .int .i64 0, .int .i64 0, .slice none 0 0, .slice none 0 0, .slice none 0 0, .slice none 0 0, .slice none 0 0] 35 (0, 0))) := heap_alloc_new w4 _
  have FB : Fr [] w4 ((w4.alloc (.cells #[.int .i64 0, .int .i64 0, .int .i64 0, .int .i64 0, .int .i64 0, .int .i64 0, .int .i64 0, .int .i64 0, .int .i64 0, .int .i64 0, .int .i64 0, .int .i64 0, .slice none 0 0, .slice none 0 0, .slice none 0 0, .slice none 0 0, .slice none 0 0] 35)).setRow w4.heap.size t.arr) := ((Fr.refl [] w4).alloc _).setRow (.inr (Nat.le_refl _)) _
  have HB : Hid (((w4.alloc (.cells #[.int .i64 0, .int .i64 0, .int .i64 0, .int .i64 0, .int .i64 0, .int .i64 0, .int .i64 0, .int .i64 0, .int .i64 0, .int .i64 0, .int .i64 0, .int .i64 0, .slice none 0 0, .slice none 0 0, .slice none 0 0, .slice none 0 0, .slice none 0 0] 35)).setRow w4.heap.size t.arr).heap[w4.heap.size]? = some (.cells t.arr 35 (0, 0)) ∧ Fr [] w4 ((w4.alloc (.cells #[.int .i64 0, .int .i64 0, .int .i64 0, .int .i64 0, .int .i64 0, .int .i64 0, .int .i64 0, .int .i64 0, .int .i64 0, .int .i64 0, .int .i64 0, .int .i64 0, .slice none 0 0, .slice none 0 0, .slice none 0 0, .slice none 0 0, .slice none 0 0] 35)).setRow w4.heap.size t.arr)) := ⟨setRow_heap _ _ _ t.arr _ _ HA.out, FB⟩
  clear hx4 HX3 FB
  go_upto_region 9 with (first
    | refine wpList_ld35 rfl (.tmp 1) rfl tb rfl t.arr t.arr_size HX4.out.1 ?_
    | refine wpList_store_row rfl 35 (.tmp 4) (.tmp 31) rfl w4.heap.size t.arr rfl rfl 35 _ HA.out (by rw [t.arr_size]; exact info35) (by rw [t.arr_size]; rfl) t.arr_one ?_)
  clear HA
  generalize (w4.alloc (.cells #[.int .i64 0, .int .i64 0, .int .i64 0, .int .i64 0, .int .i64 0, .int .i64 0, .int .i64 0, .int .i64 0, .int .i64 0, .int .i64 0, .int .i64 0, .int .i64 0, .slice none 0 0, .slice none 0 0, .slice none 0 0, .slice none 0 0, .slice none 0 0] 35)).setRow w4.heap.size t.arr = V at *
  generalize hob : w4.heap.size = ob at *
  have HOB : Hid (w4.heap.size = ob) := hob
  clear hob
  have hO : Hid (SL V w3.heap.size 55 t.oa t.ops.length t.oc 5 56 (flatE t.ops)) := (HX4.out.2.2.1.fr0 HB.out.2).ops
  obtain ⟨i, hi, hz, hz1, hby⟩ := info_parts ci30
  have kk := at_cells ((HB.out.2.block _ (by have h1 := HX4.out.2.2.2.2; have h2 : w4.heap.size = ob := HOB.out; omega) (by simp)).trans HX4.out.1) 13 t.at_ops
  have hle : t.ops.length * 56 ≤ 140737488355328 := hO.out.fit
  go_upto_region 10 with (refine wpList_append_src _ rfl _ _ 30 rfl V.heap.size 55 i _ 5 56 cu30 hi hz hz1 hby rfl (by decide) (.slice none 0 0) 0 [] rfl (World.ownsRow_nil _ _ _ _) t.oa t.ops.length t.oc (flatE t.ops) rfl hO.out.len hO.out.nn (hO.out.row (Fr.refl _ _)) (flatE_one _) (by unfold maxLen; omega) (by omega) (Nat.le_refl _) ?_; intro v' X ho hg _; rw [Nat.zero_add, List.nil_append] at ho; obtain ⟨va, vc, rfl, _⟩ := own_slice ho; have fX : Fr [] V X := Fr.ofGrown0 hg; have hBX := (fX.block _ (Array.getElem?_eq_some_iff.1 HB.out.1).1 (by simp)).trans HB.out.1; have c0 : X.cell? ⟨ob, 13, none⟩ = some _ := at_cells hBX 13 t.at_ops; have z0 : X.frozen? ⟨ob, 13, none⟩ = false := frz hBX; have RO : Hid (X.ownsRow V.heap.size 55 5 (.slice va t.ops.length vc) t.ops.length (flatE t.ops)) := ho; have HFX : Hid (Fr [] V X ∧ X.heap[ob]? = some (.cells t.arr 35 (0, 0))) := ⟨fX, hBX⟩; clear ho hg fX hBX kk)
  clear c0 z0 hi hz hz1 hby hle hO i
  have fS : Fr [ob] X (X.setCell ⟨ob, 13, none⟩ (.slice va t.ops.length vc)) := (Fr.refl _ _).setCell (.inl (by simp)) _
  have fA : Fr [] w4 (X.setCell ⟨ob, 13, none⟩ (.slice va t.ops.length vc)) := (HB.out.2.trans HFX.out.1).setCell (.inr (by have := HOB.out; show w4.heap.size ≤ ob; omega)) _
  have hB2 := set_cells 13 (.slice va t.ops.length vc) HFX.out.2
  have ho2 : (X.setCell ⟨ob, 13, none⟩ (.slice va t.ops.length vc)).ownsRow w4.heap.size 55 5 (.slice va t.ops.length vc) t.ops.length (flatE t.ops) := own_low (own_fr RO.out fS (fun k hk hm => by simp at hm; subst hm; exact own_ne RO.out HFX.out.2 (by decide) hk)) HB.out.2.size
  rw [Tr.set_ops] at hB2
  have HB1 : Hid ((X.setCell ⟨ob, 13, none⟩ (.slice va t.ops.length vc)).heap[ob]? = some (.cells ({ t with oa := va, oc := vc } : Tr).arr 35 (0, 0)) ∧ Fr [] w4 (X.setCell ⟨ob, 13, none⟩ (.slice va t.ops.length vc))) := ⟨hB2, fA⟩
  have HR1 : Hid ((X.setCell ⟨ob, 13, none⟩ (.slice va t.ops.length vc)).ownsRow w4.heap.size 55 5 (.slice va t.ops.length vc) t.ops.length (flatE t.ops)) := ho2
  clear fS fA hB2 ho2 HFX RO HB
  have HB := HB1
  clear HB1
  generalize X.setCell ⟨ob, 13, none⟩ (.slice va t.ops.length vc) = V1 at *
  generalize hoa : va = oa1 at *
  generalize hoc : vc = oc1 at *
  clear hoa hoc
  have hO : Hid (SL V1 w3.heap.size 3 t.ia t.ins.length t.ic 1 8 (t.ins.map (Value.int .i64))) := (HX4.out.2.2.1.fr0 HB.out.2).ins
  obtain ⟨i, hi, hz, hz1, hby⟩ := info_parts ci22
  have kk := at_cells ((HB.out.2.block _ (by have h1 := HX4.out.2.2.2.2; have h2 : w4.heap.size = ob := HOB.out; omega) (by simp)).trans HX4.out.1) 12 t.at_ins
  have hle : t.ins.length * 8 ≤ 140737488355328 := hO.out.fit
  go_upto_region 11 with (refine wpList_append_src _ rfl _ _ 22 rfl V1.heap.size 3 i _ 1 8 cu22 hi hz hz1 hby rfl (by decide) (.slice none 0 0) 0 [] rfl (World.ownsRow_nil _ _ _ _) t.ia t.ins.length t.ic (t.ins.map (Value.int .i64)) rfl hO.out.len hO.out.nn (hO.out.row (Fr.refl _ _)) (by simp [Value.oneCell']) (by unfold maxLen; omega) (by omega) (Nat.le_refl _) ?_; intro v' X1 ho hg _; rw [Nat.zero_add, List.nil_append] at ho; obtain ⟨va, vc, rfl, _⟩ := own_slice ho; have fX : Fr [] V1 X1 := Fr.ofGrown0 hg; have hBX := (fX.block _ (Array.getElem?_eq_some_iff.1 HB.out.1).1 (by simp)).trans HB.out.1; have c0 : X1.cell? ⟨ob, 12, none⟩ = some _ := at_cells hBX 12 ({ t with oa := oa1, oc := oc1 } : Tr).at_ins; have z0 : X1.frozen? ⟨ob, 12, none⟩ = false := frz hBX; have RO : Hid (X1.ownsRow V1.heap.size 3 1 (.slice va t.ins.length vc) t.ins.length (t.ins.map (Value.int .i64))) := ho; have HFX : Hid (Fr [] V1 X1 ∧ X1.heap[ob]? = some (.cells ({ t with oa := oa1, oc := oc1 } : Tr).arr 35 (0, 0))) := ⟨fX, hBX⟩; clear ho hg fX hBX kk)
  clear c0 z0 hi hz hz1 hby hle hO i
  have fS : Fr [ob] X1 (X1.setCell ⟨ob, 12, none⟩ (.slice va t.ins.length vc)) := (Fr.refl _ _).setCell (.inl (by simp)) _
  have fA : Fr [] w4 (X1.setCell ⟨ob, 12, none⟩ (.slice va t.ins.length vc)) := (HB.out.2.trans HFX.out.1).setCell (.inr (by have := HOB.out; show w4.heap.size ≤ ob; omega)) _
  have hB2 := set_cells 12 (.slice va t.ins.length vc) HFX.out.2
  have ho2 : (X1.setCell ⟨ob, 12, none⟩ (.slice va t.ins.length vc)).ownsRow w4.heap.size 3 1 (.slice va t.ins.length vc) t.ins.length (t.ins.map (Value.int .i64)) := own_low (own_fr RO.out fS (fun k hk hm => by simp at hm; subst hm; exact own_ne RO.out HFX.out.2 (by decide) hk)) HB.out.2.size
  rw [show ({ t with oa := oa1, oc := oc1 } : Tr).arr.setIfInBounds 12 (.slice va t.ins.length vc) = ({ t with oa := oa1, oc := oc1, ia := va, ic := vc } : Tr).arr from Tr.set_ins ({ t with oa := oa1, oc := oc1 } : Tr) va vc] at hB2
  have HR2 : Hid ((X1.setCell ⟨ob, 12, none⟩ (.slice va t.ins.length vc)).ownsRow w4.heap.size 3 1 (.slice va t.ins.length vc) t.ins.length (t.ins.map (Value.int .i64)) ∧ (X1.setCell ⟨ob, 12, none⟩ (.slice va t.ins.length vc)).ownsRow w4.heap.size 55 5 (.slice oa1 t.ops.length oc1) t.ops.length (flatE t.ops)) := ⟨ho2, by
    have q := own_fr HR1.out HFX.out.1 (by simp)
    exact own_fr q fS (fun k hk hm => by simp at hm; subst hm; exact own_ne q HFX.out.2 (by decide) hk)⟩
  have HB1 : Hid ((X1.setCell ⟨ob, 12, none⟩ (.slice va t.ins.length vc)).heap[ob]? = some (.cells ({ t with oa := oa1, oc := oc1, ia := va, ic := vc } : Tr).arr 35 (0, 0)) ∧ Fr [] w4 (X1.setCell ⟨ob, 12, none⟩ (.slice va t.ins.length vc))) := ⟨hB2, fA⟩
  clear fS fA hB2 ho2 HFX RO HB HR1
  have HB := HB1
  clear HB1
  generalize X1.setCell ⟨ob, 12, none⟩ (.slice va t.ins.length vc) = V2 at *
  generalize hia : va = ia1 at *
  generalize hic : vc = ic1 at *
  clear hia hic
  have HOPS : Hid (0 < t.ops.length ∧ 0 < t.ins.length) := ⟨by omega, by omega⟩
  have HTa : Hid (TrOk V2 w3.heap.size ({ t with oa := oa1, oc := oc1, ia := ia1, ic := ic1 } : Tr)) := Tr.new_rows (HX4.out.2.2.1.fr0 HB.out.2) (SL.own HR2.out.1 (by decide) (HX4.out.2.2.1.ins.fit)) (SL.own HR2.out.2 (by decide) (HX4.out.2.2.1.ops.fit))
  obtain ⟨rs0, hca0⟩ := H4.out.ca
  have hrs0 : rs0 = [] := by have := hca0.abs; simpa using this
  subst hrs0
  have hP : Calls Try.prog 14 #[.pointer (some ⟨c, 0, none⟩), .agg ({ t with oa := oa1, oc := oc1, ia := ia1, ic := ic1 } : Tr).arr] V2 fun e w' => e = .returned (.int .i64 (putR ⟨limP 1, [], [], [], 0, 0⟩)) ∧ (∃ rs' t', CA w' w3.heap.size c (0 + 1) (rs' ++ [(putR ⟨limP 1, [], [], [], 0, 0⟩, t')]) (putB ⟨limP 1, [], [], [], 0, 0⟩ t.abs) ∧ FrL 8 V2.heap.size t') ∧ Gm w3.heap.size pP true V2 w' := put_fr (hca0.fr0 HB.out.2) H4.out.ok (by decide) (Nat.le_trans H4.out.hi HB.out.2.size) (by show limP 1 ≠ 0; decide) (by intro x hx; cases hx) HTa.out HX4.out.2.2.2.1
  clear hca0
  go_upto_region 12 with (first
    | refine wpList_ld35 rfl (.tmp 4) rfl ob rfl _ (Tr.arr_size _) HB.out.1 ?_
    | (go_at_call 14; refine hP.mono ?_; rintro e w5 ⟨rfl, ⟨rs', t', hca5, hfr5⟩, g5⟩; have HP5 : Hid (CA w5 w3.heap.size c (0 + 1) (rs' ++ [(putR ⟨limP 1, [], [], [], 0, 0⟩, t')]) (putB ⟨limP 1, [], [], [], 0, 0⟩ t.abs) ∧ FrL 8 V2.heap.size t' ∧ Gm w3.heap.size pP true V2 w5) := ⟨hca5, hfr5, g5⟩; clear hca5 hfr5 g5 hP))
  have OK1 : Hid (Ok (putB ⟨limP 1, [], [], [], 0, 0⟩ t.abs) (0 + 1)) := H4.out.ok.put HX4.out.2.2.2.1
  have hrs : rs' = [] := put_one HP5.out.1 OK1.out
  subst hrs
  have g5 := HP5.out.2.2
  have F35 : Fr [] w3 w5 := (H4.out.fr.trans HB.out.2).overM g5 (Nat.le_refl _)
  have F5 : Fr [] W w5 := HX4.out.2.1.trans F35
  have TB5 := Fr.gmBlock g5 ((HB.out.2.block _ (by have h1 := HX4.out.2.2.2.2; have h2 : w4.heap.size = ob := HOB.out; omega) (by simp)).trans HX4.out.1) (by decide)
  have OB5 := Fr.gmBlock g5 HB.out.1 (by decide)
  obtain ⟨g1, cur1, e1, hlo1, hb1, _⟩ := row_first HR2.out.2 HOPS.out.1
  have hg1 : g1 < V2.heap.size := (Array.getElem?_eq_some_iff.1 hb1).1
  have RO5 := own_gm HR2.out.2 g5 (by decide)
  have RI5 := own_gm HR2.out.1 g5 (by decide)
  obtain ⟨g1', cur1', e1', _, hb5, th5⟩ := row_first RO5 HOPS.out.1
  rw [e1] at e1'
  cases e1'
  subst e1
  obtain ⟨g2, cur2, e2, hlo2, hb2, _⟩ := row_first HR2.out.1 HOPS.out.2
  have hg2 : g2 < V2.heap.size := (Array.getElem?_eq_some_iff.1 hb2).1
  have hWl : W.heap.size ≤ w4.heap.size := Nat.le_trans HX4.out.2.1.size H4.out.fr.size
  have k13 : w5.cell? ⟨ob, 13, none⟩ = some _ := at_cells OB5 13 (Tr.at_ops _)
  have H5 : Hid (CA w5 w3.heap.size c (0 + 1) [(putR ⟨limP 1, [], [], [], 0, 0⟩, t')] (putB ⟨limP 1, [], [], [], 0, 0⟩ t.abs) ∧ FrL 8 V2.heap.size t' ∧ Fr [] W w5 ∧ g1 < V2.heap.size ∧ g2 < V2.heap.size ∧ W.heap.size ≤ g1 ∧ W.heap.size ≤ g2 ∧ w5.heap[g1]? = some (.cells cur1' 55 (0, 0)) ∧ w5.there g1 0 5 ∧ w5.heap[tb]? = some (.cells t.arr 35 (0, 0)) ∧ w3.heap.size ≤ w5.heap.size) := ⟨by simpa using HP5.out.1, HP5.out.2.1, F5, hg1, hg2, Nat.le_trans hWl hlo1, Nat.le_trans hWl hlo2, hb5, th5, TB5, F35.size⟩
  have HO5 : Hid (w5.heap[ob]? = some (.cells ({ t with oa := some ⟨g1, 0, none⟩, oc := oc1, ia := ia1, ic := ic1 } : Tr).arr 35 (0, 0)) ∧ w5.ownsRow w4.heap.size 3 1 (.slice ia1 t.ins.length ic1) t.ins.length (t.ins.map (Value.int .i64)) ∧ ia1 = some ⟨g2, 0, none⟩) := ⟨OB5, RI5, e2⟩
  have HAT : Hid (ATOk t.abs ∧ W.heap.size ≤ w3.heap.size) := ⟨HX4.out.2.2.2.1, HX4.out.2.1.size⟩
  clear HP5 g5 F35 F5 TB5 OB5 hlo1 hb1 hg1 RO5 RI5 hb5 th5 e2 hlo2 hb2 hg2 hWl HR2 HTa HB H4 HX4
  clear HOB
  generalize hB3 : w3.heap.size = B at *
  clear hB3
  go_upto_region 13 with (first
    | refine wpList_store_mid rfl 55 (.tmp 46) (.tmp 45) rfl g1 0 #[.int .i64 77, .slice none 0 0, .int .i64 0, .int .i64 0, .int .i64 0] rfl rfl H5.out.2.2.2.2.2.2.2.2.1 info55 (by simp [Value.oneCell']) ?_)
  have f6 : Fr [g1] w5 (w5.setCells g1 0 [.int .i64 77, .slice none 0 0, .int .i64 0, .int .i64 0, .int .i64 0]) := Fr.setCells _ _ (Fr.refl _ _) (.inl (by simp))
  have F6 : Fr [] W (w5.setCells g1 0 [.int .i64 77, .slice none 0 0, .int .i64 0, .int .i64 0, .int .i64 0]) := Fr.setCells _ _ H5.out.2.2.1 (.inr H5.out.2.2.2.2.2.1)
  have t1 : tb ≠ g1 := by rintro rfl; exact absurd (ne_cells H5.out.2.2.2.2.2.2.2.2.2.1 H5.out.2.2.2.2.2.2.2.1) (by decide)
  have o1 : ob ≠ g1 := by rintro rfl; exact absurd (ne_cells HO5.out.1 H5.out.2.2.2.2.2.2.2.1) (by decide)
  have TB6 := (f6.block tb (Array.getElem?_eq_some_iff.1 H5.out.2.2.2.2.2.2.2.2.2.1).1 (by simp [t1])).trans H5.out.2.2.2.2.2.2.2.2.2.1
  have OB6 := (f6.block ob (Array.getElem?_eq_some_iff.1 HO5.out.1).1 (by simp [o1])).trans HO5.out.1
  have RI6 := own_fr HO5.out.2.1 f6 (fun k hk hm => by simp at hm; subst hm; exact own_ne HO5.out.2.1 H5.out.2.2.2.2.2.2.2.1 (by decide) hk)
  have hpk : (putB ⟨limP 1, [], [], [], 0, 0⟩ t.abs).pk = [] := put_nopk rfl _
  have HC6 : Hid (CA (w5.setCells g1 0 [.int .i64 77, .slice none 0 0, .int .i64 0, .int .i64 0, .int .i64 0]) B c (0 + 1) [(putR ⟨limP 1, [], [], [], 0, 0⟩, t')] (putB ⟨limP 1, [], [], [], 0, 0⟩ t.abs) ∧ FrL 8 V2.heap.size t' ∧ Fr [] W (w5.setCells g1 0 [.int .i64 77, .slice none 0 0, .int .i64 0, .int .i64 0, .int .i64 0]) ∧ g2 < V2.heap.size ∧ W.heap.size ≤ g2 ∧ (w5.setCells g1 0 [.int .i64 77, .slice none 0 0, .int .i64 0, .int .i64 0, .int .i64 0]).heap[tb]? = some (.cells t.arr 35 (0, 0)) ∧ B ≤ (w5.setCells g1 0 [.int .i64 77, .slice none 0 0, .int .i64 0, .int .i64 0, .int .i64 0]).heap.size) := ⟨CA.apart H5.out.1 hpk H5.out.2.2.2.2.2.2.2.1 (by decide) (by decide) f6 (by intro r hr; simp at hr; subst hr; exact H5.out.2.1) H5.out.2.2.2.1, H5.out.2.1, F6, H5.out.2.2.2.2.1, H5.out.2.2.2.2.2.2.1, TB6, Nat.le_trans H5.out.2.2.2.2.2.2.2.2.2.2 f6.size⟩
  have e2 : ia1 = some ⟨g2, 0, none⟩ := HO5.out.2.2
  clear f6 F6 t1 o1 TB6 H5 HO5
  generalize w5.setCells g1 0 [.int .i64 77, .slice none 0 0, .int .i64 0, .int .i64 0, .int .i64 0] = w6 at *
  subst e2
  obtain ⟨g2', cur2', e2', _, hb6, th6⟩ := row_first RI6 HOPS.out.2
  cases e2'
  obtain ⟨u2, hu2⟩ := Option.isSome_iff_exists.1 (th6 0 (by omega)).1
  have c2 : w6.cell? ⟨g2, 0, none⟩ = some u2 := hu2
  have z2 : w6.frozen? ⟨g2, 0, none⟩ = false := (th6 0 (by omega)).2
  have k12 : w6.cell? ⟨ob, 12, none⟩ = some _ := at_cells OB6 12 (Tr.at_ins _)
  have HB6 : Hid (w6.heap[g2]? = some (.cells cur2' 3 (0, 0))) := hb6
  have hiI : (1 : Int) ≤ t.ins.length := by have := HOPS.out.2; omega
  have hoI : (1 : Int) ≤ t.ops.length := by have := HOPS.out.1; omega
  clear hu2 th6 RI6 OB6 hb6
  go_upto_region 14 with fail
  have f7 : Fr [g2] w6 (w6.setCell ⟨g2, 0, none⟩ (.int .i64 (-5))) := (Fr.refl _ _).setCell (.inl (by simp)) _
  have F7 : Fr [] W (w6.setCell ⟨g2, 0, none⟩ (.int .i64 (-5))) := HC6.out.2.2.1.setCell (.inr HC6.out.2.2.2.2.1) _
  have t2 : tb ≠ g2 := by rintro rfl; exact absurd (ne_cells HC6.out.2.2.2.2.2.1 HB6.out) (by decide)
  have TB7 := (f7.block tb (Array.getElem?_eq_some_iff.1 HC6.out.2.2.2.2.2.1).1 (by simp [t2])).trans HC6.out.2.2.2.2.2.1
  have hpk : (putB ⟨limP 1, [], [], [], 0, 0⟩ t.abs).pk = [] := put_nopk rfl _
  have HC7 : Hid (CA (w6.setCell ⟨g2, 0, none⟩ (.int .i64 (-5))) B c (0 + 1) [(putR ⟨limP 1, [], [], [], 0, 0⟩, t')] (putB ⟨limP 1, [], [], [], 0, 0⟩ t.abs) ∧ Fr [] W (w6.setCell ⟨g2, 0, none⟩ (.int .i64 (-5))) ∧ (w6.setCell ⟨g2, 0, none⟩ (.int .i64 (-5))).heap[tb]? = some (.cells t.arr 35 (0, 0)) ∧ B ≤ (w6.setCell ⟨g2, 0, none⟩ (.int .i64 (-5))).heap.size) := ⟨CA.apart HC6.out.1 hpk HB6.out (by decide) (by decide) f7 (by intro r hr; simp at hr; subst hr; exact HC6.out.2.1) HC6.out.2.2.2.1, F7, TB7, Nat.le_trans HC6.out.2.2.2.2.2.2 f7.size⟩
  clear f7 F7 t2 TB7 hpk HB6 HC6 c2 z2 k12
  generalize w6.setCell ⟨g2, 0, none⟩ (.int .i64 (-5)) = w7 at *
  have HT7 : Hid (TrOk w7 B t) := (HT0.out.fr0 HC7.out.2.1).low (by have h1 := HAT.out.2; have h2 := HW.out; omega)
  have CG := get_fr HC7.out.1 HC7.out.2.2.2 (k := t.k) HAT.out.1.kw
  have hget : getB (putB ⟨limP 1, [], [], [], 0, 0⟩ t.abs) t.k = some (((⟨limP 1, [], [], [], 0, 0⟩ : Bk).last : Int) + 1, t.abs) := put_get (Ok.new _ (limP_le 1) _) t.abs (by show limP 1 ≠ 0; decide)
  rw [hget] at CG
  simp only [Option.map_some, Option.getD_some, Option.isSome_some] at CG
  have HK : Hid (w7.rangeAt tb 0 (kc t.k).toList) := Tr.key_range HC7.out.2.2.1
  go_upto_region 15 with (first
    | refine wpList_ld29 rfl (.tmp 52) rfl tb 0 rfl t.k HK.out ?_
    | (go_at_call 15; refine CG.mono ?_; rintro e w8 ⟨t3, rfl, ha3, ht3, f8, fr3⟩; have HA : Hid ((w8.alloc (.cells #[.int .i64 0, .int .i64 0, .int .i64 0, .int .i64 0, .int .i64 0, .int .i64 0, .int .i64 0, .int .i64 0, .int .i64 0, .int .i64 0, .int .i64 0, .int .i64 0, .slice none 0 0, .slice none 0 0, .slice none 0 0, .slice none 0 0, .slice none 0 0] 35)).heap[w8.heap.size]? = some (.cells #[.int .i64 0, .int .i64 0, .int .i64 0, .int .i64 0, .int .i64 0, .int .i64 0, .int .i64 0, .int .i64 0, .int .i64 0, .int .i64 0, .int .i64 0, .int .i64 0, .slice none 0 0, .slice none 0 0, .slice none 0 0, .slice none 0 0, .slice none 0 0] 35 (0, 0))) := heap_alloc_new w8 _; have HQ : Hid (t3.abs = t.abs ∧ TrOk w8 B t3 ∧ Fr [] w7 w8 ∧ FrL 8 w7.heap.size t3) := ⟨ha3, ht3, f8, fr3⟩; clear ha3 ht3 f8 fr3 CG HK)
    | refine wpList_store_row rfl 35 (.tmp 5) (.tmp 55) rfl w8.heap.size t3.arr rfl rfl 35 _ HA.out (by rw [t3.arr_size]; exact info35) (by rw [t3.arr_size]; rfl) t3.arr_one ?_)
  have FB : Fr [] w8 ((w8.alloc (.cells #[.int .i64 0, .int .i64 0, .int .i64 0, .int .i64 0, .int .i64 0, .int .i64 0, .int .i64 0, .int .i64 0, .int .i64 0, .int .i64 0, .int .i64 0, .int .i64 0, .slice none 0 0, .slice none 0 0, .slice none 0 0, .slice none 0 0, .slice none 0 0] 35)).setRow w8.heap.size t3.arr) := ((Fr.refl [] w8).alloc _).setRow (.inr (Nat.le_refl _)) _
  have FC := HQ.out.2.2.1.trans FB
  have HX8 : Hid (((w8.alloc (.cells #[.int .i64 0, .int .i64 0, .int .i64 0, .int .i64 0, .int .i64 0, .int .i64 0, .int .i64 0, .int .i64 0, .int .i64 0, .int .i64 0, .int .i64 0, .int .i64 0, .slice none 0 0, .slice none 0 0, .slice none 0 0, .slice none 0 0, .slice none 0 0] 35)).setRow w8.heap.size t3.arr).heap[tb]? = some (.cells t.arr 35 (0, 0)) ∧ ((w8.alloc (.cells #[.int .i64 0, .int .i64 0, .int .i64 0, .int .i64 0, .int .i64 0, .int .i64 0, .int .i64 0, .int .i64 0, .int .i64 0, .int .i64 0, .int .i64 0, .int .i64 0, .slice none 0 0, .slice none 0 0, .slice none 0 0, .slice none 0 0, .slice none 0 0] 35)).setRow w8.heap.size t3.arr).heap[w8.heap.size]? = some (.cells t3.arr 35 (0, 0)) ∧ Fr [] w7 ((w8.alloc (.cells #[.int .i64 0, .int .i64 0, .int .i64 0, .int .i64 0, .int .i64 0, .int .i64 0, .int .i64 0, .int .i64 0, .int .i64 0, .int .i64 0, .int .i64 0, .int .i64 0, .slice none 0 0, .slice none 0 0, .slice none 0 0, .slice none 0 0, .slice none 0 0] 35)).setRow w8.heap.size t3.arr) ∧ TrOk ((w8.alloc (.cells #[.int .i64 0, .int .i64 0, .int .i64 0, .int .i64 0, .int .i64 0, .int .i64 0, .int .i64 0, .int .i64 0, .int .i64 0, .int .i64 0, .int .i64 0, .int .i64 0, .slice none 0 0, .slice none 0 0, .slice none 0 0, .slice none 0 0, .slice none 0 0] 35)).setRow w8.heap.size t3.arr) B t3) := ⟨(FC.block _ (Array.getElem?_eq_some_iff.1 HC7.out.2.2.1).1 (by simp)).trans HC7.out.2.2.1, setRow_heap _ _ _ t3.arr _ _ HA.out, FC, HQ.out.2.1.fr0 FB⟩
  have CS := same16_any HX8.out.2.2.2 (HT7.out.fr0 FC) HQ.out.1 (by rw [HQ.out.1]; exact HAT.out.1)
  have HE3 : Hid (t3.abs = t.abs ∧ FrL 8 w7.heap.size t3) := ⟨HQ.out.1, HQ.out.2.2.2⟩
  clear FB FC HA HQ
  generalize (w8.alloc (.cells #[.int .i64 0, .int .i64 0, .int .i64 0, .int .i64 0, .int .i64 0, .int .i64 0, .int .i64 0, .int .i64 0, .int .i64 0, .int .i64 0, .int .i64 0, .int .i64 0, .slice none 0 0, .slice none 0 0, .slice none 0 0, .slice none 0 0, .slice none 0 0] 35)).setRow w8.heap.size t3.arr = V8 at *
  generalize w8.heap.size = b5 at *
  go_upto_region 17 with (first
    | refine wpList_ld35w (by rfl) (.tmp 5) rfl b5 rfl t3.arr t3.arr_size HX8.out.2.1 ?_
    | refine wpList_ld35w (by rfl) (.tmp 1) rfl tb rfl t.arr t.arr_size HX8.out.1 ?_
    | (go_at_call 16; refine CS.mono ?_; rintro e w9 ⟨rfl, f9⟩; have HF9 : Hid (Fr [] V8 w9) := f9; clear f9 CS))
  have hl3 : t3.ops.length = t.ops.length := by
    have := congrArg AT.ops HE3.out.1
    simpa [Tr.abs] using congrArg List.length this
  have F79 : Fr [] w7 w9 := HX8.out.2.2.1.trans HF9.out
  obtain ⟨g3, o3, cur3, e3, hlo3, hb3, th3⟩ := SL.there (HX8.out.2.2.2.fr0 HF9.out).ops (by decide) (by rw [hl3]; exact HOPS.out.1) (FrL.ops HE3.out.2) HC7.out.2.2.2
  have k13 : w9.cell? ⟨b5, 13, none⟩ = some (.slice t3.oa t3.ops.length t3.oc) := at_cells ((HF9.out.block _ (Array.getElem?_eq_some_iff.1 HX8.out.2.1).1 (by simp)).trans HX8.out.2.1) 13 t3.at_ops
  rw [e3, hl3] at k13
  have HS9 : Hid (Fr [] w7 w9 ∧ w7.heap.size ≤ g3 ∧ w9.there g3 o3 5) := ⟨F79, hlo3, th3⟩
  clear F79 e3 hlo3 hb3 th3 hl3 HF9 HX8 HE3
  go_upto_region 18 with (first
    | refine wpList_store_mid rfl 55 (.tmp 69) (.tmp 68) rfl g3 o3 #[.int .i64 78, .slice none 0 0, .int .i64 0, .int .i64 0, .int .i64 0] rfl rfl HS9.out.2.2 info55 (by simp [Value.oneCell']) ?_)
  have F10 : Fr [] w7 (w9.setCells g3 o3 [.int .i64 78, .slice none 0 0, .int .i64 0, .int .i64 0, .int .i64 0]) := Fr.setCells _ _ HS9.out.1 (.inr HS9.out.2.1)
  clear k13 HS9
  generalize w9.setCells g3 o3 [.int .i64 78, .slice none 0 0, .int .i64 0, .int .i64 0, .int .i64 0] = w10 at *
  have HT10 : Hid (TrOk w10 B t ∧ Fr [] W w10 ∧ w10.heap[tb]? = some (.cells t.arr 35 (0, 0))) := ⟨HT7.out.fr0 F10, HC7.out.2.1.trans F10, (F10.block _ (Array.getElem?_eq_some_iff.1 HC7.out.2.2.1).1 (by simp)).trans HC7.out.2.2.1⟩
  have CG := get_fr (HC7.out.1.fr0 F10) (Nat.le_trans HC7.out.2.2.2 F10.size) (k := t.k) HAT.out.1.kw
  rw [hget] at CG
  simp only [Option.map_some, Option.getD_some, Option.isSome_some] at CG
  have HK : Hid (w10.rangeAt tb 0 (kc t.k).toList) := Tr.key_range HT10.out.2.2
  clear F10 HT7 HC7 hget
  go_upto_region 19 with (first
    | refine wpList_ld29 rfl (.tmp 72) rfl tb 0 rfl t.k HK.out ?_
    | (go_at_call 15; refine CG.mono ?_; rintro e w11 ⟨t4, rfl, ha4, ht4, f11, fr4⟩; have HA : Hid ((w11.alloc (.cells #[.int .i64 0, .int .i64 0, .int .i64 0, .int .i64 0, .int .i64 0, .int .i64 0, .int .i64 0, .int .i64 0, .int .i64 0, .int .i64 0, .int .i64 0, .int .i64 0, .slice none 0 0, .slice none 0 0, .slice none 0 0, .slice none 0 0, .slice none 0 0] 35)).heap[w11.heap.size]? = some (.cells #[.int .i64 0, .int .i64 0, .int .i64 0, .int .i64 0, .int .i64 0, .int .i64 0, .int .i64 0, .int .i64 0, .int .i64 0, .int .i64 0, .int .i64 0, .int .i64 0, .slice none 0 0, .slice none 0 0, .slice none 0 0, .slice none 0 0, .slice none 0 0] 35 (0, 0))) := heap_alloc_new w11 _; have HQ : Hid (t4.abs = t.abs ∧ TrOk w11 B t4 ∧ Fr [] w10 w11) := ⟨ha4, ht4, f11⟩; clear ha4 ht4 f11 fr4 CG HK)
    | refine wpList_store_row rfl 35 (.tmp 8) (.tmp 75) rfl w11.heap.size t4.arr rfl rfl 35 _ HA.out (by rw [t4.arr_size]; exact info35) (by rw [t4.arr_size]; rfl) t4.arr_one ?_)
  have FB : Fr [] w11 ((w11.alloc (.cells #[.int .i64 0, .int .i64 0, .int .i64 0, .int .i64 0, .int .i64 0, .int .i64 0, .int .i64 0, .int .i64 0, .int .i64 0, .int .i64 0, .int .i64 0, .int .i64 0, .slice none 0 0, .slice none 0 0, .slice none 0 0, .slice none 0 0, .slice none 0 0] 35)).setRow w11.heap.size t4.arr) := ((Fr.refl [] w11).alloc _).setRow (.inr (Nat.le_refl _)) _
  have FC := HQ.out.2.2.trans FB
  have HX12 : Hid (((w11.alloc (.cells #[.int .i64 0, .int .i64 0, .int .i64 0, .int .i64 0, .int .i64 0, .int .i64 0, .int .i64 0, .int .i64 0, .int .i64 0, .int .i64 0, .int .i64 0, .int .i64 0, .slice none 0 0, .slice none 0 0, .slice none 0 0, .slice none 0 0, .slice none 0 0] 35)).setRow w11.heap.size t4.arr).heap[tb]? = some (.cells t.arr 35 (0, 0)) ∧ ((w11.alloc (.cells #[.int .i64 0, .int .i64 0, .int .i64 0, .int .i64 0, .int .i64 0, .int .i64 0, .int .i64 0, .int .i64 0, .int .i64 0, .int .i64 0, .int .i64 0, .int .i64 0, .slice none 0 0, .slice none 0 0, .slice none 0 0, .slice none 0 0, .slice none 0 0] 35)).setRow w11.heap.size t4.arr).heap[w11.heap.size]? = some (.cells t4.arr 35 (0, 0)) ∧ Fr [] W ((w11.alloc (.cells #[.int .i64 0, .int .i64 0, .int .i64 0, .int .i64 0, .int .i64 0, .int .i64 0, .int .i64 0, .int .i64 0, .int .i64 0, .int .i64 0, .int .i64 0, .int .i64 0, .slice none 0 0, .slice none 0 0, .slice none 0 0, .slice none 0 0, .slice none 0 0] 35)).setRow w11.heap.size t4.arr)) := ⟨(FC.block _ (Array.getElem?_eq_some_iff.1 HT10.out.2.2).1 (by simp)).trans HT10.out.2.2, setRow_heap _ _ _ t4.arr _ _ HA.out, HT10.out.2.1.trans FC⟩
  have CS := same16_any (HQ.out.2.1.fr0 FB) (HT10.out.1.fr0 FC) HQ.out.1 (by rw [HQ.out.1]; exact HAT.out.1)
  clear FB FC HA HQ HT10
  generalize (w11.alloc (.cells #[.int .i64 0, .int .i64 0, .int .i64 0, .int .i64 0, .int .i64 0, .int .i64 0, .int .i64 0, .int .i64 0, .int .i64 0, .int .i64 0, .int .i64 0, .int .i64 0, .slice none 0 0, .slice none 0 0, .slice none 0 0, .slice none 0 0, .slice none 0 0] 35)).setRow w11.heap.size t4.arr = V12 at *
  generalize w11.heap.size = b8 at *
  go_wp2_with (first
    | refine wpList_ld35 rfl (.tmp 8) rfl b8 rfl t4.arr t4.arr_size HX12.out.2.1 ?_
    | refine wpList_ld35 rfl (.tmp 1) rfl tb rfl t.arr t.arr_size HX12.out.1 ?_
    | (go_at_call 16; refine CS.mono ?_; rintro e w13 ⟨rfl, f13⟩; have HF13 : Hid (Fr [] V12 w13) := f13; clear f13 CS))
  go_ret
  exact ⟨rfl, HX12.out.2.2.trans HF13.out⟩
end Go.Proofs.Ytnhjplfdfbbihaa
