/-
  Copies of traces: the walk; condition: the trace lies as told.
-/
import Derived.Test.YtnhjplfdfbbihaaCaI
import Derived.Test.YtnhjplfdfbbihaaCaJ
import Derived.Test.YtnhjplfdfbbihaaCaK
namespace Go.Proofs.Ytnhjplfdfbbihaa
open Go.RowKit
set_option linter.unusedVariables false
set_option linter.unusedSimpArgs false


set_option maxRecDepth 100000 in
set_option maxHeartbeats 8000000 in
theorem copied_any {w : World} {B : Nat} {t : Tr} (ht : TrOk w B t) (hB : B ≤ w.heap.size) :
    Calls Try.prog 31 #[.agg t.arr] w fun e w' => ∃ t' : Tr, e = .returned (.agg t'.arr) ∧ t'.abs = t.abs ∧ TrOk w' B t' ∧ Fr [] w w' := by
  have F2 : Fr [] w ((w.alloc (.cells t.arr 35)).alloc (.cells #[.int .i64 0, .int .i64 0, .int .i64 0, .int .i64 0, .int .i64 0, .int .i64 0, .int .i64 0, .int .i64 0, .int .i64 0, .int .i64 0, .int .i64 0, .int .i64 0, .slice none 0 0, .slice none 0 0, .slice none 0 0, .slice none 0 0, .slice none 0 0] 35)) := ((Fr.refl _ _).alloc _).alloc _
  have K0 : Wk w ((w.alloc (.cells t.arr 35)).alloc (.cells #[.int .i64 0, .int .i64 0, .int .i64 0, .int .i64 0, .int .i64 0, .int .i64 0, .int .i64 0, .int .i64 0, .int .i64 0, .int .i64 0, .int .i64 0, .int .i64 0, .slice none 0 0, .slice none 0 0, .slice none 0 0, .slice none 0 0, .slice none 0 0] 35)) t := ⟨(((Fr.refl [] _).alloc _).block _ (by simp) (by simp)).trans (heap_alloc_new w _), blk2 w _ _, F2⟩
  have T0 := ht.fr0 F2
  clear ht F2
  go_enter Try.func31, Try.ntmps31
  go_upto_region 1 with fail
  generalize (w.alloc (.cells t.arr 35)).alloc (.cells #[.int .i64 0, .int .i64 0, .int .i64 0, .int .i64 0, .int .i64 0, .int .i64 0, .int .i64 0, .int .i64 0, .int .i64 0, .int .i64 0, .int .i64 0, .int .i64 0, .slice none 0 0, .slice none 0 0, .slice none 0 0, .slice none 0 0, .slice none 0 0] 35) = W at *
  have HK : Hid (Wk w W t) := K0
  have HT : Hid (TrOk W B t) := T0
  have HB : Hid (B ≤ w.heap.size) := hB
  clear K0 T0 hB
  have cc : W.cell? ⟨w.heap.size, 12, none⟩ = some (.slice t.ia t.ins.length t.ic) := at_cells HK.out.b1 12 t.at_ins
  have C := clone22 HT.out.ins (by simp [Value.oneCell'])
  have HL : Hid (roT 3 = true) := rfl
  go_wp2_with fail
  with_reducible (refine C.mono ?_)
  rintro e X ⟨v, rfl, ho, f3⟩
  obtain ⟨va, vc, rfl, _⟩ := own_slice ho
  have K1 := HK.out.step f3
  have T1 := HT.out.fr0 f3
  have K2 : Wk w (X.setCell ⟨w.heap.size, 12, none⟩ (.slice va t.ins.length vc)) { t with ia := va, ic := vc } := K1.set 12 _ (Tr.set_ins _ va vc)
  have ho1 := own_setT K1 ho (by decide) 12 (.slice va t.ins.length vc)
  have T2 : TrOk (X.setCell ⟨w.heap.size, 12, none⟩ (.slice va t.ins.length vc)) B { t with ia := va, ic := vc } := ⟨SL.own ho1 rfl T1.ins.fit, T1.ops.set K1 HB.out _ _, fun e he => (T1.opl e he).set K1 HB.out _ _, T1.links.set K1 HB.out _ _, fun e he => (T1.linkl e he).set K1 HB.out _ _, T1.virts.set K1 HB.out _ _, fun e he => (T1.virtl e he).set K1 HB.out _ _, T1.back.set K1 HB.out _ _⟩
  have A2 : Hid (({ t with ia := va, ic := vc } : Tr).abs = t.abs) := (show t.abs = t.abs from rfl)
  have cc' : X.cell? ⟨w.heap.size, 12, none⟩ = some _ := at_cells K1.b1 12 t.at_ins
  have z1 : X.frozen? ⟨w.heap.size, 12, none⟩ = false := by simp [World.frozen?, K1.b1]
  have ho2 : (X.setCell ⟨w.heap.size, 12, none⟩ (.slice va t.ins.length vc)).ownsRow w.heap.size 3 1 (.slice ({ t with ia := va, ic := vc } : Tr).ia ({ t with ia := va, ic := vc } : Tr).ins.length ({ t with ia := va, ic := vc } : Tr).ic) ({ t with ia := va, ic := vc } : Tr).ins.length (({ t with ia := va, ic := vc } : Tr).ins.map (Value.int .i64)) := own_low ho1 (show w.heap.size ≤ W.heap.size from HK.out.fr.size)
  clear C cc ho ho1 f3 K1 T1 HK HT  HL
  generalize ({ t with ia := va, ic := vc } : Tr) = t1 at K2 T2 A2 ho2
  go_upto_region 2 with fail
  clear cc' z1
  generalize X.setCell ⟨w.heap.size, 12, none⟩ (.slice va t.ins.length vc) = W at *
  have HK : Hid (Wk w W t1) := K2
  have HT : Hid (TrOk W B t1) := T2
  have HA : Hid (t1.abs = t.abs) := A2
  clear K2 T2 A2
  clear ho2
  have cc : W.cell? ⟨w.heap.size, 13, none⟩ = some (.slice t1.oa t1.ops.length t1.oc) := at_cells HK.out.b1 13 t1.at_ops
  have C := clone45 HT.out.ops (flatE_one _)
  have HL : Hid (roT 55 = true) := rfl
  go_wp2_with fail
  with_reducible (refine C.mono ?_)
  rintro e X ⟨v, rfl, ho, f3⟩
  obtain ⟨va, vc, rfl, _⟩ := own_slice ho
  have K1 := HK.out.step f3
  have T1 := HT.out.fr0 f3
  have K2 : Wk w (X.setCell ⟨w.heap.size, 13, none⟩ (.slice va t1.ops.length vc)) { t1 with oa := va, oc := vc } := K1.set 13 _ (Tr.set_ops _ va vc)
  have ho1 := own_setT K1 ho (by decide) 13 (.slice va t1.ops.length vc)
  have T2 : TrOk (X.setCell ⟨w.heap.size, 13, none⟩ (.slice va t1.ops.length vc)) B { t1 with oa := va, oc := vc } := ⟨T1.ins.set K1 HB.out _ _, SL.own ho1 rfl T1.ops.fit, fun e he => (T1.opl e he).set K1 HB.out _ _, T1.links.set K1 HB.out _ _, fun e he => (T1.linkl e he).set K1 HB.out _ _, T1.virts.set K1 HB.out _ _, fun e he => (T1.virtl e he).set K1 HB.out _ _, T1.back.set K1 HB.out _ _⟩
  have A2 : Hid (({ t1 with oa := va, oc := vc } : Tr).abs = t.abs) := HA.out
  have cc' : X.cell? ⟨w.heap.size, 13, none⟩ = some _ := at_cells K1.b1 13 t1.at_ops
  have z1 : X.frozen? ⟨w.heap.size, 13, none⟩ = false := by simp [World.frozen?, K1.b1]
  have ho2 : (X.setCell ⟨w.heap.size, 13, none⟩ (.slice va t1.ops.length vc)).ownsRow w.heap.size 55 5 (.slice ({ t1 with oa := va, oc := vc } : Tr).oa ({ t1 with oa := va, oc := vc } : Tr).ops.length ({ t1 with oa := va, oc := vc } : Tr).oc) ({ t1 with oa := va, oc := vc } : Tr).ops.length (flatE ({ t1 with oa := va, oc := vc } : Tr).ops) := own_low ho1 (show w.heap.size ≤ W.heap.size from HK.out.fr.size)
  clear C cc ho ho1 f3 K1 T1 HK HT HA HL
  generalize ({ t1 with oa := va, oc := vc } : Tr) = t2 at K2 T2 A2 ho2
  go_upto_region 3 with fail
  clear cc' z1
  generalize X.setCell ⟨w.heap.size, 13, none⟩ (.slice va t1.ops.length vc) = W at *
  have HK : Hid (Wk w W t2) := K2
  have HT : Hid (TrOk W B t2) := T2
  have HA : Hid (t2.abs = t.abs) := A2
  clear K2 T2 A2
  have c3 : W.cell? ⟨w.heap.size, 13, none⟩ = some (.slice t2.oa t2.ops.length t2.oc) := at_cells HK.out.b1 13 t2.at_ops
  have ho3 : Hid _ := ho2
  clear ho2
  go_wp2
  clear c3
  refine loop31a HK HT HB ho3.out ?_
  intro t3 W1 K2 T2 A2 _ _ _ _ _ _ _ _ _ _ _ _ _ _ _ _
  have HK2 : Hid (Wk w W1 t3) := K2
  have HT2 : Hid (TrOk W1 B t3) := T2
  have HA2 : Hid (t3.abs = t.abs) := A2.trans HA.out
  clear HK HT HA ho3 K2 T2 A2
  go_upto_region 8 with fail
  have HK : Hid (Wk w W1 t3) := HK2
  have HT : Hid (TrOk W1 B t3) := HT2
  have HA : Hid (t3.abs = t.abs) := HA2
  clear HK2 HT2 HA2
  generalize W1 = W at *
  have cc : W.cell? ⟨w.heap.size, 14, none⟩ = some (.slice t3.la t3.links.length t3.lc) := at_cells HK.out.b1 14 t3.at_links
  have C := clone47 HT.out.links (flatE_one _)
  have HL : Hid (roT 77 = true) := rfl
  go_wp2_with fail
  with_reducible (refine C.mono ?_)
  rintro e X ⟨v, rfl, ho, f3⟩
  obtain ⟨va, vc, rfl, _⟩ := own_slice ho
  have K1 := HK.out.step f3
  have T1 := HT.out.fr0 f3
  have K2 : Wk w (X.setCell ⟨w.heap.size, 14, none⟩ (.slice va t3.links.length vc)) { t3 with la := va, lc := vc } := K1.set 14 _ (Tr.set_links _ va vc)
  have ho1 := own_setT K1 ho (by decide) 14 (.slice va t3.links.length vc)
  have T2 : TrOk (X.setCell ⟨w.heap.size, 14, none⟩ (.slice va t3.links.length vc)) B { t3 with la := va, lc := vc } := ⟨T1.ins.set K1 HB.out _ _, T1.ops.set K1 HB.out _ _, fun e he => (T1.opl e he).set K1 HB.out _ _, SL.own ho1 rfl T1.links.fit, fun e he => (T1.linkl e he).set K1 HB.out _ _, T1.virts.set K1 HB.out _ _, fun e he => (T1.virtl e he).set K1 HB.out _ _, T1.back.set K1 HB.out _ _⟩
  have A2 : Hid (({ t3 with la := va, lc := vc } : Tr).abs = t.abs) := HA.out
  have cc' : X.cell? ⟨w.heap.size, 14, none⟩ = some _ := at_cells K1.b1 14 t3.at_links
  have z1 : X.frozen? ⟨w.heap.size, 14, none⟩ = false := by simp [World.frozen?, K1.b1]
  have ho2 : (X.setCell ⟨w.heap.size, 14, none⟩ (.slice va t3.links.length vc)).ownsRow w.heap.size 77 5 (.slice ({ t3 with la := va, lc := vc } : Tr).la ({ t3 with la := va, lc := vc } : Tr).links.length ({ t3 with la := va, lc := vc } : Tr).lc) ({ t3 with la := va, lc := vc } : Tr).links.length (flatE ({ t3 with la := va, lc := vc } : Tr).links) := own_low ho1 (show w.heap.size ≤ W.heap.size from HK.out.fr.size)
  clear C cc ho ho1 f3 K1 T1 HK HT HA HL
  generalize ({ t3 with la := va, lc := vc } : Tr) = t4 at K2 T2 A2 ho2
  go_upto_region 9 with fail
  clear cc' z1
  generalize X.setCell ⟨w.heap.size, 14, none⟩ (.slice va t3.links.length vc) = W at *
  have HK : Hid (Wk w W t4) := K2
  have HT : Hid (TrOk W B t4) := T2
  have HA : Hid (t4.abs = t.abs) := A2
  clear K2 T2 A2
  have c3 : W.cell? ⟨w.heap.size, 14, none⟩ = some (.slice t4.la t4.links.length t4.lc) := at_cells HK.out.b1 14 t4.at_links
  have ho3 : Hid _ := ho2
  clear ho2
  go_wp2
  clear c3
  refine loop31b HK HT HB ho3.out ?_
  intro t5 W1 K2 T2 A2 _ _ _ _ _ _ _ _ _ _ _ _ _ _ _ _
  have HK2 : Hid (Wk w W1 t5) := K2
  have HT2 : Hid (TrOk W1 B t5) := T2
  have HA2 : Hid (t5.abs = t.abs) := A2.trans HA.out
  clear HK HT HA ho3 K2 T2 A2
  go_upto_region 14 with fail
  have HK : Hid (Wk w W1 t5) := HK2
  have HT : Hid (TrOk W1 B t5) := HT2
  have HA : Hid (t5.abs = t.abs) := HA2
  clear HK2 HT2 HA2
  generalize W1 = W at *
  have cc : W.cell? ⟨w.heap.size, 15, none⟩ = some (.slice t5.va t5.virts.length t5.vc) := at_cells HK.out.b1 15 t5.at_virts
  have C := clone48 HT.out.virts (flatE_one _)
  have HL : Hid (roT 79 = true) := rfl
  go_wp2_with fail
  with_reducible (refine C.mono ?_)
  rintro e X ⟨v, rfl, ho, f3⟩
  obtain ⟨va, vc, rfl, _⟩ := own_slice ho
  have K1 := HK.out.step f3
  have T1 := HT.out.fr0 f3
  have K2 : Wk w (X.setCell ⟨w.heap.size, 15, none⟩ (.slice va t5.virts.length vc)) { t5 with va := va, vc := vc } := K1.set 15 _ (Tr.set_virts _ va vc)
  have ho1 := own_setT K1 ho (by decide) 15 (.slice va t5.virts.length vc)
  have T2 : TrOk (X.setCell ⟨w.heap.size, 15, none⟩ (.slice va t5.virts.length vc)) B { t5 with va := va, vc := vc } := ⟨T1.ins.set K1 HB.out _ _, T1.ops.set K1 HB.out _ _, fun e he => (T1.opl e he).set K1 HB.out _ _, T1.links.set K1 HB.out _ _, fun e he => (T1.linkl e he).set K1 HB.out _ _, SL.own ho1 rfl T1.virts.fit, fun e he => (T1.virtl e he).set K1 HB.out _ _, T1.back.set K1 HB.out _ _⟩
  have A2 : Hid (({ t5 with va := va, vc := vc } : Tr).abs = t.abs) := HA.out
  have cc' : X.cell? ⟨w.heap.size, 15, none⟩ = some _ := at_cells K1.b1 15 t5.at_virts
  have z1 : X.frozen? ⟨w.heap.size, 15, none⟩ = false := by simp [World.frozen?, K1.b1]
  have ho2 : (X.setCell ⟨w.heap.size, 15, none⟩ (.slice va t5.virts.length vc)).ownsRow w.heap.size 79 2 (.slice ({ t5 with va := va, vc := vc } : Tr).va ({ t5 with va := va, vc := vc } : Tr).virts.length ({ t5 with va := va, vc := vc } : Tr).vc) ({ t5 with va := va, vc := vc } : Tr).virts.length (flatE ({ t5 with va := va, vc := vc } : Tr).virts) := own_low ho1 (show w.heap.size ≤ W.heap.size from HK.out.fr.size)
  clear C cc ho ho1 f3 K1 T1 HK HT HA HL
  generalize ({ t5 with va := va, vc := vc } : Tr) = t6 at K2 T2 A2 ho2
  go_upto_region 15 with fail
  clear cc' z1
  generalize X.setCell ⟨w.heap.size, 15, none⟩ (.slice va t5.virts.length vc) = W at *
  have HK : Hid (Wk w W t6) := K2
  have HT : Hid (TrOk W B t6) := T2
  have HA : Hid (t6.abs = t.abs) := A2
  clear K2 T2 A2
  have c3 : W.cell? ⟨w.heap.size, 15, none⟩ = some (.slice t6.va t6.virts.length t6.vc) := at_cells HK.out.b1 15 t6.at_virts
  have ho3 : Hid _ := ho2
  clear ho2
  go_wp2
  clear c3
  refine loop31c HK HT HB ho3.out ?_
  intro t7 W1 K2 T2 A2 _ _ _ _ _ _ _ _ _ _ _ _ _ _ _ _
  have HK2 : Hid (Wk w W1 t7) := K2
  have HT2 : Hid (TrOk W1 B t7) := T2
  have HA2 : Hid (t7.abs = t.abs) := A2.trans HA.out
  clear HK HT HA ho3 K2 T2 A2
  go_upto_region 20 with fail
  have HK : Hid (Wk w W1 t7) := HK2
  have HT : Hid (TrOk W1 B t7) := HT2
  have HA : Hid (t7.abs = t.abs) := HA2
  clear HK2 HT2 HA2
  generalize W1 = W at *
  have cc : W.cell? ⟨w.heap.size, 16, none⟩ = some (.slice t7.ba t7.back.length t7.bc) := at_cells HK.out.b1 16 t7.at_back
  have C := clone46 HT.out.back (flatS_one _)
  have HL : Hid (roT 109 = true) := rfl
  go_wp2_with fail
  with_reducible (refine C.mono ?_)
  rintro e X ⟨v, rfl, ho, f3⟩
  obtain ⟨va, vc, rfl, _⟩ := own_slice ho
  have K1 := HK.out.step f3
  have T1 := HT.out.fr0 f3
  have K2 : Wk w (X.setCell ⟨w.heap.size, 16, none⟩ (.slice va t7.back.length vc)) { t7 with ba := va, bc := vc } := K1.set 16 _ (Tr.set_back _ va vc)
  have ho1 := own_setT K1 ho (by decide) 16 (.slice va t7.back.length vc)
  have T2 : TrOk (X.setCell ⟨w.heap.size, 16, none⟩ (.slice va t7.back.length vc)) B { t7 with ba := va, bc := vc } := ⟨T1.ins.set K1 HB.out _ _, T1.ops.set K1 HB.out _ _, fun e he => (T1.opl e he).set K1 HB.out _ _, T1.links.set K1 HB.out _ _, fun e he => (T1.linkl e he).set K1 HB.out _ _, T1.virts.set K1 HB.out _ _, fun e he => (T1.virtl e he).set K1 HB.out _ _, SL.own ho1 rfl T1.back.fit⟩
  have A2 : Hid (({ t7 with ba := va, bc := vc } : Tr).abs = t.abs) := HA.out
  have cc' : X.cell? ⟨w.heap.size, 16, none⟩ = some _ := at_cells K1.b1 16 t7.at_back
  have z1 : X.frozen? ⟨w.heap.size, 16, none⟩ = false := by simp [World.frozen?, K1.b1]
  have ho2 : (X.setCell ⟨w.heap.size, 16, none⟩ (.slice va t7.back.length vc)).ownsRow w.heap.size 109 4 (.slice ({ t7 with ba := va, bc := vc } : Tr).ba ({ t7 with ba := va, bc := vc } : Tr).back.length ({ t7 with ba := va, bc := vc } : Tr).bc) ({ t7 with ba := va, bc := vc } : Tr).back.length (flatS ({ t7 with ba := va, bc := vc } : Tr).back) := own_low ho1 (show w.heap.size ≤ W.heap.size from HK.out.fr.size)
  clear C cc ho ho1 f3 K1 T1 HK HT HA HL
  generalize ({ t7 with ba := va, bc := vc } : Tr) = t8 at K2 T2 A2 ho2
  go_upto_region 21 with fail
  clear cc' z1
  generalize X.setCell ⟨w.heap.size, 16, none⟩ (.slice va t7.back.length vc) = W at *
  have HK : Hid (Wk w W t8) := K2
  have HT : Hid (TrOk W B t8) := T2
  have HA : Hid (t8.abs = t.abs) := A2
  clear K2 T2 A2
  have K1 := HK.out
  have HF : Hid (Fr [] w (W.setRow (w.heap.size + 1) t8.arr)) := K1.fr.setRow (.inr (by simp)) _
  have hres : (W.setRow (w.heap.size + 1) t8.arr).heap[w.heap.size + 1]? = some (.cells t8.arr 35 (0, 0)) := setRow_heap _ _ _ _ _ _ K1.b2
  have HT2 : Hid (TrOk (W.setRow (w.heap.size + 1) t8.arr) B t8) := HT.out.fr (S := [w.heap.size + 1]) ((Fr.refl _ _).setRow (.inl (by simp)) _) (fun k hk => by
    simp at hk
    subst hk
    refine ⟨Nat.le_trans HB.out (Nat.le_succ _), fun c t hc => ?_⟩
    rw [K1.b2] at hc
    cases hc
    rfl)
  have b1 := K1.b1
  have b2 := K1.b2
  have h17 := t8.arr_size
  have h1 := t8.arr_one
  clear K1
  go_wp2_with (first
    | refine wpList_ld35 rfl (.tmp 1) rfl w.heap.size rfl t8.arr h17 b1 ?_
    | refine wpList_st35 rfl (.tmp 2) (.tmp 83) rfl (w.heap.size + 1) t8.arr rfl rfl _ b2 h17 rfl h1 ?_)
  refine bodyPost_ret (v := .agg t8.arr) ?_ rfl ⟨t8, rfl, HA.out, HT2.out, HF.out⟩
  exact results35 res31 h17 rfl hres
end Go.Proofs.Ytnhjplfdfbbihaa
