/-
  Traces held against each other by the document, and by the program: both answer whether they say the same; condition: they lie as told.
-/
import Derived.Test.YtkogfgbgmifcnaaDoorSaE
import Derived.Test.YtkogfgbgmifcnaaDoorSaF
import Derived.Test.YtkogfgbgmifcnaaDoorSaG
import Derived.Test.YtkogfgbgmifcnaaDoorSaH
namespace Go.Proofs.YtkogfgbgmifcnaaDoor
open Go.RowKit
set_option linter.unusedVariables false
set_option linter.unusedSimpArgs false
set_option maxRecDepth 100000 in
set_option maxHeartbeats 16000000 in
/-- The document's Same, of any two traces. -/
theorem same22 {w : World} {B : Nat} {t u : Tr} (h1 : TrOk w B t) (h2 : TrOk w B u) (ha : ATOk t.abs) (hb : ATOk u.abs) :
    Calls Tryd.prog 22 #[.agg t.arr, .agg u.arr] w fun e w' => e = .returned (.bool (decide (t.abs = u.abs))) ∧ Fr [] w w' := by
  have F2 : Fr [] w ((w.alloc (.cells t.arr 33)).alloc (.cells u.arr 33)) := ((Fr.refl _ _).alloc _).alloc _
  have HT : Hid (Tw ((w.alloc (.cells t.arr 33)).alloc (.cells u.arr 33)) B w.heap.size (w.heap.size + 1) t u) := ⟨(((Fr.refl [] _).alloc _).block _ (by simp) (by simp)).trans (heap_alloc_new w _), blk2 w _ _, h1.fr0 F2, h2.fr0 F2⟩
  have HW : Hid (ATOk t.abs ∧ ATOk u.abs) := ⟨ha, hb⟩
  have HF : Hid (Fr [] w ((w.alloc (.cells t.arr 33)).alloc (.cells u.arr 33))) := F2
  clear h1 h2 ha hb F2
  obtain ⟨z, hz⟩ : ∃ z, z = decide (t.abs = u.abs) := ⟨_, rfl⟩
  rw [← hz]
  have HZ : Hid (z = decide (t.abs = u.abs)) := hz
  clear hz
  go_enter Tryd.func22, Tryd.ntmps22
  go_upto_region 1 with fail
  generalize (w.alloc (.cells t.arr 33)).alloc (.cells u.arr 33) = W at *
  have KR1 : Hid (W.rangeAt w.heap.size 0 (kc t.k).toList) := Tr.key_range HT.out.b1
  have KR2 : Hid (W.rangeAt (w.heap.size + 1) 0 (kc u.k).toList) := Tr.key_range HT.out.b2
  have k10 := at_cells HT.out.b1 10 t.at_fn
  have m10 := at_cells HT.out.b2 10 u.at_fn
  have k11 := at_cells HT.out.b1 11 t.at_pc
  have m11 := at_cells HT.out.b2 11 u.at_pc
  have k12 := at_cells HT.out.b1 12 t.at_ins
  have m12 := at_cells HT.out.b2 12 u.at_ins
  have k13 := at_cells HT.out.b1 13 t.at_ops
  have m13 := at_cells HT.out.b2 13 u.at_ops
  have k14 := at_cells HT.out.b1 14 t.at_links
  have m14 := at_cells HT.out.b2 14 u.at_links
  have k15 := at_cells HT.out.b1 15 t.at_virts
  have m15 := at_cells HT.out.b2 15 u.at_virts
  have k16 := at_cells HT.out.b1 16 t.at_back
  have m16 := at_cells HT.out.b2 16 u.at_back
  have A1 : Hid True := trivial
  have A2 : Hid True := trivial
  have A3 : Hid True := trivial
  have C49 := same49 HT.out.o1.back HT.out.o2.back HW.out.1.bw HW.out.2.bw
  have HK : Hid (kw t.k ∧ kw u.k) := ⟨HW.out.1.kw, HW.out.2.kw⟩
  have HK12 : Hid (W.cell? ⟨w.heap.size, 12, none⟩ = some (.slice t.ia t.ins.length t.ic)) := k12
  have HK13 : Hid (W.cell? ⟨w.heap.size, 13, none⟩ = some (.slice t.oa t.ops.length t.oc)) := k13
  have HK14 : Hid (W.cell? ⟨w.heap.size, 14, none⟩ = some (.slice t.la t.links.length t.lc)) := k14
  have HK15 : Hid (W.cell? ⟨w.heap.size, 15, none⟩ = some (.slice t.va t.virts.length t.vc)) := k15
  by_cases e0 : t.k = u.k
  rotate_left
  · obtain rfl : z = false := HZ.out.trans (abs_ne (fun q => e0 q.1))
    have q0 : (!decide (t.k = u.k)) = true := by rw [decide_eq_false e0]; rfl
    clear HZ e0
    clear C49
    go_wp2_with (first
      | (have hA1 := A1; clear A1 hA1; refine wpList_ld26 rfl (.tmp 13) rfl w.heap.size 0 rfl t.k KR1.out ?_)
      | (have hA2 := A2; clear A2 hA2; refine wpList_ld26 rfl (.tmp 15) rfl (w.heap.size + 1) 0 rfl u.k KR2.out ?_)
      | (have hA3 := A3; clear A3 hA3; refine wpList_neq26 rfl (.tmp 14) (.tmp 16) rfl HK.out.1 HK.out.2 rfl rfl ?_; rw [q0]))
    go_ret
    exact ⟨rfl, HF.out⟩
  have q0 : (!decide (t.k = u.k)) = false := by rw [decide_eq_true e0]; rfl
  have HE0 : Hid (t.k = u.k) := e0
  clear e0
  by_cases e1 : t.fn = u.fn
  rotate_left
  · obtain rfl : z = false := HZ.out.trans (abs_ne (fun q => e1 q.2.1))
    clear HZ
    clear C49
    go_wp2_with (first
      | (have hA1 := A1; clear A1 hA1; refine wpList_ld26 rfl (.tmp 13) rfl w.heap.size 0 rfl t.k KR1.out ?_)
      | (have hA2 := A2; clear A2 hA2; refine wpList_ld26 rfl (.tmp 15) rfl (w.heap.size + 1) 0 rfl u.k KR2.out ?_)
      | (have hA3 := A3; clear A3 hA3; refine wpList_neq26 rfl (.tmp 14) (.tmp 16) rfl HK.out.1 HK.out.2 rfl rfl ?_; rw [q0]))
    go_ret
    exact ⟨rfl, HF.out⟩
  rw [← e1] at m10
  have HE1 : Hid (t.fn = u.fn) := e1
  clear e1
  by_cases e2 : t.pc = u.pc
  rotate_left
  · obtain rfl : z = false := HZ.out.trans (abs_ne (fun q => e2 q.2.2.1))
    clear HZ
    clear C49
    go_wp2_with (first
      | (have hA1 := A1; clear A1 hA1; refine wpList_ld26 rfl (.tmp 13) rfl w.heap.size 0 rfl t.k KR1.out ?_)
      | (have hA2 := A2; clear A2 hA2; refine wpList_ld26 rfl (.tmp 15) rfl (w.heap.size + 1) 0 rfl u.k KR2.out ?_)
      | (have hA3 := A3; clear A3 hA3; refine wpList_neq26 rfl (.tmp 14) (.tmp 16) rfl HK.out.1 HK.out.2 rfl rfl ?_; rw [q0]))
    go_ret
    exact ⟨rfl, HF.out⟩
  rw [← e2] at m11
  have HE2 : Hid (t.pc = u.pc) := e2
  clear e2
  by_cases e3 : u.ins.length = t.ins.length
  rotate_left
  · obtain rfl : z = false := HZ.out.trans (abs_ne (fun q => e3 (by rw [q.2.2.2.1])))
    have d3 : ¬ (t.ins.length : Int) = u.ins.length := fun h => e3 (by omega)
    clear HZ e3
    clear C49
    go_wp2_with (first
      | (have hA1 := A1; clear A1 hA1; refine wpList_ld26 rfl (.tmp 13) rfl w.heap.size 0 rfl t.k KR1.out ?_)
      | (have hA2 := A2; clear A2 hA2; refine wpList_ld26 rfl (.tmp 15) rfl (w.heap.size + 1) 0 rfl u.k KR2.out ?_)
      | (have hA3 := A3; clear A3 hA3; refine wpList_neq26 rfl (.tmp 14) (.tmp 16) rfl HK.out.1 HK.out.2 rfl rfl ?_; rw [q0]))
    go_ret
    exact ⟨rfl, HF.out⟩
  rw [e3] at m12
  have HE3 : Hid (u.ins.length = t.ins.length) := e3
  clear e3
  by_cases e4 : u.ops.length = t.ops.length
  rotate_left
  · obtain rfl : z = false := HZ.out.trans (abs_ne (fun q => e4 (by have := congrArg List.length q.2.2.2.2.1; simpa using this.symm)))
    have d4 : ¬ (t.ops.length : Int) = u.ops.length := fun h => e4 (by omega)
    clear HZ e4
    clear C49
    go_wp2_with (first
      | (have hA1 := A1; clear A1 hA1; refine wpList_ld26 rfl (.tmp 13) rfl w.heap.size 0 rfl t.k KR1.out ?_)
      | (have hA2 := A2; clear A2 hA2; refine wpList_ld26 rfl (.tmp 15) rfl (w.heap.size + 1) 0 rfl u.k KR2.out ?_)
      | (have hA3 := A3; clear A3 hA3; refine wpList_neq26 rfl (.tmp 14) (.tmp 16) rfl HK.out.1 HK.out.2 rfl rfl ?_; rw [q0]))
    go_ret
    exact ⟨rfl, HF.out⟩
  rw [e4] at m13
  have HE4 : Hid (u.ops.length = t.ops.length) := e4
  clear e4
  by_cases e5 : u.links.length = t.links.length
  rotate_left
  · obtain rfl : z = false := HZ.out.trans (abs_ne (fun q => e5 (by have := congrArg List.length q.2.2.2.2.2.1; simpa using this.symm)))
    have d5 : ¬ (t.links.length : Int) = u.links.length := fun h => e5 (by omega)
    clear HZ e5
    clear C49
    go_wp2_with (first
      | (have hA1 := A1; clear A1 hA1; refine wpList_ld26 rfl (.tmp 13) rfl w.heap.size 0 rfl t.k KR1.out ?_)
      | (have hA2 := A2; clear A2 hA2; refine wpList_ld26 rfl (.tmp 15) rfl (w.heap.size + 1) 0 rfl u.k KR2.out ?_)
      | (have hA3 := A3; clear A3 hA3; refine wpList_neq26 rfl (.tmp 14) (.tmp 16) rfl HK.out.1 HK.out.2 rfl rfl ?_; rw [q0]))
    go_ret
    exact ⟨rfl, HF.out⟩
  rw [e5] at m14
  have HE5 : Hid (u.links.length = t.links.length) := e5
  clear e5
  by_cases e6 : u.virts.length = t.virts.length
  rotate_left
  · obtain rfl : z = false := HZ.out.trans (abs_ne (fun q => e6 (by have := congrArg List.length q.2.2.2.2.2.2.1; simpa using this.symm)))
    have d6 : ¬ (t.virts.length : Int) = u.virts.length := fun h => e6 (by omega)
    clear HZ e6
    clear C49
    go_wp2_with (first
      | (have hA1 := A1; clear A1 hA1; refine wpList_ld26 rfl (.tmp 13) rfl w.heap.size 0 rfl t.k KR1.out ?_)
      | (have hA2 := A2; clear A2 hA2; refine wpList_ld26 rfl (.tmp 15) rfl (w.heap.size + 1) 0 rfl u.k KR2.out ?_)
      | (have hA3 := A3; clear A3 hA3; refine wpList_neq26 rfl (.tmp 14) (.tmp 16) rfl HK.out.1 HK.out.2 rfl rfl ?_; rw [q0]))
    go_ret
    exact ⟨rfl, HF.out⟩
  rw [e6] at m15
  have HE6 : Hid (u.virts.length = t.virts.length) := e6
  clear e6
  by_cases e7 : t.back = u.back
  rotate_left
  · obtain rfl : z = false := HZ.out.trans (abs_ne (fun q => e7 q.2.2.2.2.2.2.2))
    rw [decide_eq_false e7] at C49
    clear HZ e7
    go_wp2_with (first
      | (have hA1 := A1; clear A1 hA1; refine wpList_ld26 rfl (.tmp 13) rfl w.heap.size 0 rfl t.k KR1.out ?_)
      | (have hA2 := A2; clear A2 hA2; refine wpList_ld26 rfl (.tmp 15) rfl (w.heap.size + 1) 0 rfl u.k KR2.out ?_)
      | (have hA3 := A3; clear A3 hA3; refine wpList_neq26 rfl (.tmp 14) (.tmp 16) rfl HK.out.1 HK.out.2 rfl rfl ?_; rw [q0])
      | (go_at_call 49; refine C49.mono ?_; rintro e W1 ⟨rfl, f1⟩))
    go_ret
    exact ⟨rfl, HF.out.trans f1⟩
  rw [decide_eq_true e7] at C49
  have HE7 : Hid (t.back = u.back) := e7
  clear e7
  go_upto_region 3 with (first
    | (have hA1 := A1; clear A1 hA1; refine wpList_ld26 rfl (.tmp 13) rfl w.heap.size 0 rfl t.k KR1.out ?_)
    | (have hA2 := A2; clear A2 hA2; refine wpList_ld26 rfl (.tmp 15) rfl (w.heap.size + 1) 0 rfl u.k KR2.out ?_)
    | (have hA3 := A3; clear A3 hA3; refine wpList_neq26 rfl (.tmp 14) (.tmp 16) rfl HK.out.1 HK.out.2 rfl rfl ?_; rw [q0])
    | (go_at_call 49; refine C49.mono ?_; rintro e W1 ⟨rfl, f1⟩))
  clear k10 k11 k12 k13 k14 k15 k16 m10 m11 m12 m13 m14 m15 m16 C49 q0
  have c12 := f1.cell1 HK12.out (by simp)
  have HF1 : Hid (Fr [] W W1) := f1
  have HT1 : Hid (Tw W1 B w.heap.size (w.heap.size + 1) t u) := HT.out.fr f1
  clear f1
  go_wp2
  refine same22a HT1 HE3  (hid ?_) (hid ?_)
  rotate_left
  · intro W2 f2 hne _ _ _ _ _ _ _ _ _ _ _ _ _ _ _ _
    obtain rfl : z = false := HZ.out.trans (abs_ne (fun q => hne (by rw [q.2.2.2.1])))
    clear HZ hne c12
    go_wp2
    go_ret
    exact ⟨rfl, HF.out.trans (HF1.out.trans f2)⟩
  intro W2 f2 heq _ _ _ _ _ _ _ _ _ _ _ _ _ _ _ _
  have f1 := HF1.out.trans f2
  have HQa : Hid _ := heq
  clear HF1 HT1 f2 c12 heq
  generalize W2 = W1 at *
  go_upto_region 9 with fail
  have c13 := f1.cell1 HK13.out (by simp)
  have HF1 : Hid (Fr [] W W1) := f1
  have HT1 : Hid (Tw W1 B w.heap.size (w.heap.size + 1) t u) := HT.out.fr f1
  clear f1
  go_wp2
  refine same22b HT1 HE4 (hid ⟨at_opsw HW.out.1, at_opsw HW.out.2⟩) (hid ?_) (hid ?_)
  rotate_left
  · intro W2 f2 hne _ _ _ _ _ _ _ _ _ _ _ _ _ _ _ _ _ _ _ _ _ _ _ _ _ _ _ _ _ _ _ _ _ _ _ _ _ _ _ _ _ _ _ _ _ _ _ _ _ _ _
    obtain rfl : z = false := HZ.out.trans (abs_ne (fun q => hne q.2.2.2.2.1))
    clear HZ hne c13
    go_wp2
    go_ret
    exact ⟨rfl, HF.out.trans (HF1.out.trans f2)⟩
  intro W2 f2 heq _ _ _ _ _ _ _ _ _ _ _ _ _ _ _ _ _ _ _ _ _ _ _ _ _ _ _ _ _ _ _ _ _ _ _ _ _ _ _ _ _ _ _ _ _ _ _ _ _ _ _
  have f1 := HF1.out.trans f2
  have HQb : Hid _ := heq
  clear HF1 HT1 f2 c13 heq
  generalize W2 = W1 at *
  go_upto_region 16 with fail
  have c14 := f1.cell1 HK14.out (by simp)
  have HF1 : Hid (Fr [] W W1) := f1
  have HT1 : Hid (Tw W1 B w.heap.size (w.heap.size + 1) t u) := HT.out.fr f1
  clear f1
  go_wp2
  refine same22c HT1 HE5 (hid ⟨at_linksw HW.out.1, at_linksw HW.out.2⟩) (hid ?_) (hid ?_)
  rotate_left
  · intro W2 f2 hne _ _ _ _ _ _ _ _ _ _ _ _ _ _ _ _ _ _ _ _ _ _ _ _ _ _ _ _ _ _ _ _ _ _ _ _ _ _ _ _ _ _ _ _ _ _ _ _ _ _ _
    obtain rfl : z = false := HZ.out.trans (abs_ne (fun q => hne q.2.2.2.2.2.1))
    clear HZ hne c14
    go_wp2
    go_ret
    exact ⟨rfl, HF.out.trans (HF1.out.trans f2)⟩
  intro W2 f2 heq _ _ _ _ _ _ _ _ _ _ _ _ _ _ _ _ _ _ _ _ _ _ _ _ _ _ _ _ _ _ _ _ _ _ _ _ _ _ _ _ _ _ _ _ _ _ _ _ _ _ _
  have f1 := HF1.out.trans f2
  have HQc : Hid _ := heq
  clear HF1 HT1 f2 c14 heq
  generalize W2 = W1 at *
  go_upto_region 23 with fail
  have c15 := f1.cell1 HK15.out (by simp)
  have HF1 : Hid (Fr [] W W1) := f1
  have HT1 : Hid (Tw W1 B w.heap.size (w.heap.size + 1) t u) := HT.out.fr f1
  clear f1
  go_wp2
  refine same22d HT1 HE6 (hid ⟨at_virtsw HW.out.1, at_virtsw HW.out.2⟩) (hid ?_) (hid ?_)
  rotate_left
  · intro W2 f2 hne _ _ _ _ _ _ _ _ _ _ _ _ _ _ _ _ _ _ _ _ _ _ _ _ _ _ _ _ _ _ _ _ _ _
    obtain rfl : z = false := HZ.out.trans (abs_ne (fun q => hne q.2.2.2.2.2.2.1))
    clear HZ hne c15
    go_wp2
    go_ret
    exact ⟨rfl, HF.out.trans (HF1.out.trans f2)⟩
  intro W2 f2 heq _ _ _ _ _ _ _ _ _ _ _ _ _ _ _ _ _ _ _ _ _ _ _ _ _ _ _ _ _ _ _ _ _ _
  have f1 := HF1.out.trans f2
  have HQd : Hid _ := heq
  clear HF1 HT1 f2 c15 heq
  generalize W2 = W1 at *
  have HG : Hid (Fr [] w W1) := HF.out.trans f1
  clear f1
  obtain rfl : z = true := HZ.out.trans (abs_eq ⟨HE0.out, HE1.out, HE2.out, by simpa using HQa.out, HQb.out, HQc.out, HQd.out, HE7.out⟩)
  go_wp2
  go_ret
  exact ⟨rfl, HG.out⟩
end Go.Proofs.YtkogfgbgmifcnaaDoor
