/-
  Traces held against each other: alike ones are told so; condition: they lie as told, they are alike.
-/
import Derived.Test.YtnhjplfdfbbihaaCaO
import Derived.Test.YtnhjplfdfbbihaaCaP
import Derived.Test.YtnhjplfdfbbihaaCaQ
import Derived.Test.YtnhjplfdfbbihaaCaR
namespace Go.Proofs.Ytnhjplfdfbbihaa
open Go.RowKit
set_option linter.unusedVariables false
set_option linter.unusedSimpArgs false
theorem wpList_ld29 {ops : Array Oper} {rest : List Oper} {o : Oper} {a : Act} {w : World} {Q : Exit → Act → World → Prop} (hgd : o.guard = none) (x : Operand) (ho : o.op = .load 29 x)
    (b off : Nat) (hx : a.eval x = .pointer (some ⟨b, off, none⟩)) (k : Ky) (hc : w.rangeAt b off (kc k).toList)
    (h : wpList Try.prog ops Q rest (a.put o.dst (.agg (kc k))) w) : wpList Try.prog ops Q (o :: rest) a w :=
  wpList_load_mid hgd 29 x ho b off hx (kc k).toList _ hc Try.underlying29 rfl (by rw [info29]; simp [kc_size]) (by simpa using h)
set_option maxRecDepth 100000 in
set_option maxHeartbeats 8000000 in
theorem same16_any {w : World} {B : Nat} {t u : Tr} (h1 : TrOk w B t) (h2 : TrOk w B u) (he : t.abs = u.abs) (hw : ATOk t.abs) :
    Calls Try.prog 16 #[.agg t.arr, .agg u.arr] w fun e w' => e = .returned (.bool true) ∧ Fr [] w w' := by
  injection he with ek ef ep ei eo el ev eb
  have F2 : Fr [] w ((w.alloc (.cells t.arr 35)).alloc (.cells u.arr 35)) := ((Fr.refl _ _).alloc _).alloc _
  have HT : Hid (Tw ((w.alloc (.cells t.arr 35)).alloc (.cells u.arr 35)) B w.heap.size (w.heap.size + 1) t u) := ⟨(((Fr.refl [] _).alloc _).block _ (by simp) (by simp)).trans (heap_alloc_new w _), blk2 w _ _, h1.fr0 F2, h2.fr0 F2⟩
  have HW : Hid (ATOk t.abs) := hw
  have HF : Hid (Fr [] w ((w.alloc (.cells t.arr 35)).alloc (.cells u.arr 35))) := F2
  have HK : Hid (kw t.k) := hw.kw
  have HI : Hid (t.ins = u.ins) := ei
  have HO : Hid (t.ops.map El.abs = u.ops.map El.abs) := eo
  have HL : Hid (t.links.map El.abs = u.links.map El.abs) := el
  have HV : Hid (t.virts.map El.abs = u.virts.map El.abs) := ev
  have HE : Hid (u.k = t.k ∧ u.fn = t.fn ∧ u.pc = t.pc ∧ u.back = t.back ∧ u.ins.length = t.ins.length ∧ u.ops.length = t.ops.length ∧ u.links.length = t.links.length ∧ u.virts.length = t.virts.length) :=
    ⟨ek.symm, ef.symm, ep.symm, eb.symm, by rw [ei], (abs_len eo).symm, (abs_len el).symm, (abs_len ev).symm⟩
  clear h1 h2 ek ef ep ei eo el ev eb hw F2
  go_enter Try.func16, Try.ntmps16
  go_upto_region 1 with fail
  generalize (w.alloc (.cells t.arr 35)).alloc (.cells u.arr 35) = W at *
  obtain ⟨q1, q2, q3, q4, q5, q6, q7, q8⟩ := HE.out
  have KR1 : Hid (W.rangeAt w.heap.size 0 (kc t.k).toList) := Tr.key_range HT.out.b1
  have KR2 : Hid (W.rangeAt (w.heap.size + 1) 0 (kc t.k).toList) := by have := Tr.key_range HT.out.b2; rw [q1] at this; exact this
  have k10 := at_cells HT.out.b1 10 t.at_fn
  have m10 := at_cells HT.out.b2 10 u.at_fn
  have k11 := at_cells HT.out.b1 11 t.at_pc
  have m11 := at_cells HT.out.b2 11 u.at_pc
  have k12 := at_cells HT.out.b1 12 t.at_ins
  have m12 := at_cells HT.out.b2 12 u.at_ins
  have k13 := at_cells HT.out.b1 13 t.at_ops
  have m13 := at_cells HT.out.b2 13 u.at_ops
  have k14 := at_cells HT.out.b1 14 t.at_links
  have m14 := at_cells HT.out.b2 14 u.at_links
  have k15 := at_cells HT.out.b1 15 t.at_virts
  have m15 := at_cells HT.out.b2 15 u.at_virts
  have k16 := at_cells HT.out.b1 16 t.at_back
  have m16 := at_cells HT.out.b2 16 u.at_back
  rw [q2] at m10
  rw [q3] at m11
  rw [q5] at m12
  rw [q6] at m13
  rw [q7] at m14
  rw [q8] at m15
  rw [q4] at m16
  have hsb := HT.out.o2.back
  rw [q4] at hsb
  have C := same34_any HT.out.o1.back hsb HW.out.bw
  have hdk : (!decide (t.k = t.k)) = false := by simp
  have HK12 : Hid (W.cell? ⟨w.heap.size, 12, none⟩ = some (.slice t.ia t.ins.length t.ic)) := k12
  have HK13 : Hid (W.cell? ⟨w.heap.size, 13, none⟩ = some (.slice t.oa t.ops.length t.oc)) := k13
  have HK14 : Hid (W.cell? ⟨w.heap.size, 14, none⟩ = some (.slice t.la t.links.length t.lc)) := k14
  have HK15 : Hid (W.cell? ⟨w.heap.size, 15, none⟩ = some (.slice t.va t.virts.length t.vc)) := k15
  clear q1 q2 q3 q4 q5 q6 q7 q8 hsb
  go_upto_region 3 with (first
    | refine wpList_ld29 rfl (.tmp 13) rfl w.heap.size 0 rfl t.k KR1.out ?_
    | refine wpList_ld29 rfl (.tmp 15) rfl (w.heap.size + 1) 0 rfl t.k KR2.out ?_
    | (refine wpList_neq29 rfl (.tmp 14) (.tmp 16) rfl HK.out HK.out rfl rfl ?_; rw [hdk])
    | (go_at_call 34; refine C.mono ?_; rintro e W1 ⟨rfl, f1⟩))
  clear k10 k11 k12 k13 k14 k15 k16 m10 m11 m12 m13 m14 m15 m16 C hdk
  have c12 := f1.cell1 HK12.out (by simp)
  have HF1 : Hid (Fr [] W W1) := f1
  have HT1 : Hid (Tw W1 B w.heap.size (w.heap.size + 1) t u) := HT.out.fr f1
  clear f1
  go_wp2
  refine same16a HT1 HI (hid ?_)
  intro W2 f2 _ _ _ _ _ _ _ _ _ _ _ _ _ _ _ _
  have f1 := HF1.out.trans f2
  clear HF1 HT1 f2 c12
  generalize W2 = W1 at *
  go_upto_region 9 with fail
  have c13 := f1.cell1 HK13.out (by simp)
  have HF1 : Hid (Fr [] W W1) := f1
  have HT1 : Hid (Tw W1 B w.heap.size (w.heap.size + 1) t u) := HT.out.fr f1
  clear f1
  go_wp2
  refine same16b HT1 HO (hid (fun e he s hs => HW.out.ow e.abs (List.mem_map_of_mem he) s hs)) (hid ?_)
  intro W2 f2 _ _ _ _ _ _ _ _ _ _ _ _ _ _ _ _ _ _ _ _ _ _ _ _ _ _ _ _ _ _ _ _ _ _ _ _ _ _ _ _ _ _ _ _ _ _ _ _ _ _ _
  have f1 := HF1.out.trans f2
  clear HF1 HT1 f2 c13
  generalize W2 = W1 at *
  go_upto_region 16 with fail
  have c14 := f1.cell1 HK14.out (by simp)
  have HF1 : Hid (Fr [] W W1) := f1
  have HT1 : Hid (Tw W1 B w.heap.size (w.heap.size + 1) t u) := HT.out.fr f1
  clear f1
  go_wp2
  refine same16c HT1 HL (hid (fun e he s hs => HW.out.lw e.abs (List.mem_map_of_mem he) s hs)) (hid ?_)
  intro W2 f2 _ _ _ _ _ _ _ _ _ _ _ _ _ _ _ _ _ _ _ _ _ _ _ _ _ _ _ _ _ _ _ _ _ _ _ _ _ _ _ _ _ _ _ _ _ _ _ _ _ _ _
  have f1 := HF1.out.trans f2
  clear HF1 HT1 f2 c14
  generalize W2 = W1 at *
  go_upto_region 23 with fail
  have c15 := f1.cell1 HK15.out (by simp)
  have HF1 : Hid (Fr [] W W1) := f1
  have HT1 : Hid (Tw W1 B w.heap.size (w.heap.size + 1) t u) := HT.out.fr f1
  clear f1
  go_wp2
  refine same16d HT1 HV (hid (fun e he s hs => HW.out.vw e.abs (List.mem_map_of_mem he) s hs)) (hid ?_)
  intro W2 f2 _ _ _ _ _ _ _ _ _ _ _ _ _ _ _ _ _ _ _ _ _ _ _ _ _ _ _ _ _ _ _ _ _ _
  have f1 := HF1.out.trans f2
  clear HF1 HT1 f2 c15
  generalize W2 = W1 at *
  have HG : Hid (Fr [] w W1) := HF.out.trans f1
  clear f1
  go_wp2
  go_ret
  exact ⟨rfl, HG.out⟩
end Go.Proofs.Ytnhjplfdfbbihaa
