/-
  Traces held against each other by the program; condition: they lie as told.
-/
import Derived.Test.YtkogfgbgmifcnaaDoorSaC
namespace Go.Proofs.YtkogfgbgmifcnaaDoor
open Go.RowKit
set_option linter.unusedVariables false
set_option linter.unusedSimpArgs false
theorem wpList_ld26 {ops : Array Oper} {rest : List Oper} {o : Oper} {a : Act} {w : World} {Q : Exit → Act → World → Prop} (hgd : o.guard = none) (x : Operand) (ho : o.op = .load 26 x)
    (b off : Nat) (hx : a.eval x = .pointer (some ⟨b, off, none⟩)) (k : Ky) (hc : w.rangeAt b off (kc k).toList)
    (h : wpList Tryd.prog ops Q rest (a.put o.dst (.agg (kc k))) w) : wpList Tryd.prog ops Q (o :: rest) a w :=
  wpList_load_mid hgd 26 x ho b off hx (kc k).toList _ hc Tryd.underlying26 rfl (by rw [info26]; simp [kc_size]) (by simpa using h)
theorem wpList_eql26 {ops : Array Oper} {rest : List Oper} {o : Oper} {act : Act} {w : World} {Q : Exit → Act → World → Prop} (hg : o.guard = none) (x y : Operand) (hop : o.op = .binOp .eql 26 x y 26) {a b : Ky} (ha : kw a) (hb : kw b) (hx : act.eval x = .agg (kc a)) (hy : act.eval y = .agg (kc b)) (h : wpList Tryd.prog ops Q rest (act.put o.dst (.bool (decide (a = b)))) w) : wpList Tryd.prog ops Q (o :: rest) act w := by
  refine wpList_plain hg fun K hK => ?_
  unfold Oper.wp execOp
  have hgd : (eqGuard .eql 26 x y (.agg (kc a)) (.agg (kc b))).run Tryd.prog w = .ok () w := by
    have : Tryd.prog.eqGuardType Tryd.prog.depth 26 = false := by kernel_rfl
    simp [eqGuard, program, this, Sem.run_bind, Sem.run, Result.andThen]
  simp only [hop, hx, hy, Sem.run_bind, hgd, eql26 w ha hb, Result.andThen_ok, Sem.run_pure]
  exact hK _ _ h
theorem wpList_neq26 {ops : Array Oper} {rest : List Oper} {o : Oper} {act : Act} {w : World} {Q : Exit → Act → World → Prop} (hg : o.guard = none) (x y : Operand) (hop : o.op = .binOp .neq 26 x y 26) {a b : Ky} (ha : kw a) (hb : kw b) (hx : act.eval x = .agg (kc a)) (hy : act.eval y = .agg (kc b)) (h : wpList Tryd.prog ops Q rest (act.put o.dst (.bool (!decide (a = b)))) w) : wpList Tryd.prog ops Q (o :: rest) act w := by
  refine wpList_plain hg fun K hK => ?_
  unfold Oper.wp execOp
  have hgd : (eqGuard .neq 26 x y (.agg (kc a)) (.agg (kc b))).run Tryd.prog w = .ok () w := by
    have : Tryd.prog.eqGuardType Tryd.prog.depth 26 = false := by kernel_rfl
    simp [eqGuard, program, this, Sem.run_bind, Sem.run, Result.andThen]
  simp only [hop, hx, hy, Sem.run_bind, hgd, neq26 w ha hb, Result.andThen_ok, Sem.run_pure]
  exact hK _ _ h
/-- Two traces in blocks of their own. -/
structure Tw (W : World) (B T1 T2 : Nat) (t u : Tr) : Prop where
  b1 : W.heap[T1]? = some (.cells t.arr 33 (0, 0))
  b2 : W.heap[T2]? = some (.cells u.arr 33 (0, 0))
  o1 : TrOk W B t
  o2 : TrOk W B u
theorem Tw.fr {W W' : World} {B T1 T2 : Nat} {t u : Tr} (h : Tw W B T1 T2 t u) (f : Fr [] W W') : Tw W' B T1 T2 t u :=
  ⟨(f.block _ (Array.getElem?_eq_some_iff.1 h.b1).1 (by simp)).trans h.b1, (f.block _ (Array.getElem?_eq_some_iff.1 h.b2).1 (by simp)).trans h.b2, h.o1.fr0 f, h.o2.fr0 f⟩
theorem abs_ne {t u : Tr} (h : ¬ (t.k = u.k ∧ t.fn = u.fn ∧ t.pc = u.pc ∧ t.ins = u.ins ∧ t.ops.map El.abs = u.ops.map El.abs ∧ t.links.map El.abs = u.links.map El.abs ∧ t.virts.map El.abs = u.virts.map El.abs ∧ t.back = u.back)) : decide (t.abs = u.abs) = false :=
  decide_eq_false (fun q => by
    simp only [Tr.abs, AT.mk.injEq] at q
    exact h ⟨q.1, q.2.1, q.2.2.1, q.2.2.2.1, q.2.2.2.2.1, q.2.2.2.2.2.1, q.2.2.2.2.2.2.1, q.2.2.2.2.2.2.2⟩)
theorem abs_eq {t u : Tr} (h : t.k = u.k ∧ t.fn = u.fn ∧ t.pc = u.pc ∧ t.ins = u.ins ∧ t.ops.map El.abs = u.ops.map El.abs ∧ t.links.map El.abs = u.links.map El.abs ∧ t.virts.map El.abs = u.virts.map El.abs ∧ t.back = u.back) : decide (t.abs = u.abs) = true :=
  decide_eq_true (by
    obtain ⟨h1, h2, h3, h4, h5, h6, h7, h8⟩ := h
    simp only [Tr.abs, AT.mk.injEq]
    exact ⟨h1, h2, h3, h4, h5, h6, h7, h8⟩)
theorem at_opsw {t : Tr} (h : ATOk t.abs) : ∀ e ∈ t.ops, ∀ s ∈ e.l, s.w := fun e he s hs => h.ow e.abs (List.mem_map_of_mem he) s hs
theorem at_linksw {t : Tr} (h : ATOk t.abs) : ∀ e ∈ t.links, ∀ s ∈ e.l, s.w := fun e he s hs => h.lw e.abs (List.mem_map_of_mem he) s hs
theorem at_virtsw {t : Tr} (h : ATOk t.abs) : ∀ e ∈ t.virts, ∀ s ∈ e.l, s.w := fun e he s hs => h.vw e.abs (List.mem_map_of_mem he) s hs
set_option maxRecDepth 100000 in
set_option maxHeartbeats 16000000 in
/-- Same, of any two traces. -/
theorem same21 {w : World} {B : Nat} {t u : Tr} (h1 : TrOk w B t) (h2 : TrOk w B u) (ha : ATOk t.abs) (hb : ATOk u.abs) :
    Calls Tryd.prog 21 #[.agg t.arr, .agg u.arr] w fun e w' => e = .returned (.bool (decide (t.abs = u.abs))) ∧ Fr [] w w' := by
  have F2 : Fr [] w ((w.alloc (.cells t.arr 33)).alloc (.cells u.arr 33)) := ((Fr.refl _ _).alloc _).alloc _
  have HT : Hid (Tw ((w.alloc (.cells t.arr 33)).alloc (.cells u.arr 33)) B w.heap.size (w.heap.size + 1) t u) := ⟨(((Fr.refl [] _).alloc _).block _ (by simp) (by simp)).trans (heap_alloc_new w _), blk2 w _ _, h1.fr0 F2, h2.fr0 F2⟩
  have HW : Hid (ATOk t.abs ∧ ATOk u.abs) := ⟨ha, hb⟩
  have HF : Hid (Fr [] w ((w.alloc (.cells t.arr 33)).alloc (.cells u.arr 33))) := F2
  clear h1 h2 ha hb F2
  obtain ⟨z, hz⟩ : ∃ z, z = decide (t.abs = u.abs) := ⟨_, rfl⟩
  rw [← hz]
  have HZ : Hid (z = decide (t.abs = u.abs)) := hz
  clear hz
  go_enter Tryd.func21, Tryd.ntmps21
  go_upto_region 1 with fail
  generalize (w.alloc (.cells t.arr 33)).alloc (.cells u.arr 33) = W at *
  have KR1 : Hid (W.rangeAt w.heap.size 0 (kc t.k).toList) := Tr.key_range HT.out.b1
  have KR2 : Hid (W.rangeAt (w.heap.size + 1) 0 (kc u.k).toList) := Tr.key_range HT.out.b2
  have k10 := at_cells HT.out.b1 10 t.at_fn
  have m10 := at_cells HT.out.b2 10 u.at_fn
  have k11 := at_cells HT.out.b1 11 t.at_pc
  have m11 := at_cells HT.out.b2 11 u.at_pc
  have K12 : Hid (∀ W', Fr [] W W' → W'.cell? ⟨w.heap.size, 12, none⟩ = some (.slice t.ia t.ins.length t.ic) ∧ W'.cell? ⟨w.heap.size + 1, 12, none⟩ = some (.slice u.ia u.ins.length u.ic)) := fun W' f => ⟨f.cell1 (at_cells HT.out.b1 12 t.at_ins) (by simp), f.cell1 (at_cells HT.out.b2 12 u.at_ins) (by simp)⟩
  have K13 : Hid (∀ W', Fr [] W W' → W'.cell? ⟨w.heap.size, 13, none⟩ = some (.slice t.oa t.ops.length t.oc) ∧ W'.cell? ⟨w.heap.size + 1, 13, none⟩ = some (.slice u.oa u.ops.length u.oc)) := fun W' f => ⟨f.cell1 (at_cells HT.out.b1 13 t.at_ops) (by simp), f.cell1 (at_cells HT.out.b2 13 u.at_ops) (by simp)⟩
  have K14 : Hid (∀ W', Fr [] W W' → W'.cell? ⟨w.heap.size, 14, none⟩ = some (.slice t.la t.links.length t.lc) ∧ W'.cell? ⟨w.heap.size + 1, 14, none⟩ = some (.slice u.la u.links.length u.lc)) := fun W' f => ⟨f.cell1 (at_cells HT.out.b1 14 t.at_links) (by simp), f.cell1 (at_cells HT.out.b2 14 u.at_links) (by simp)⟩
  have K15 : Hid (∀ W', Fr [] W W' → W'.cell? ⟨w.heap.size, 15, none⟩ = some (.slice t.va t.virts.length t.vc) ∧ W'.cell? ⟨w.heap.size + 1, 15, none⟩ = some (.slice u.va u.virts.length u.vc)) := fun W' f => ⟨f.cell1 (at_cells HT.out.b1 15 t.at_virts) (by simp), f.cell1 (at_cells HT.out.b2 15 u.at_virts) (by simp)⟩
  have K16 : Hid (∀ W', Fr [] W W' → W'.cell? ⟨w.heap.size, 16, none⟩ = some (.slice t.ba t.back.length t.bc) ∧ W'.cell? ⟨w.heap.size + 1, 16, none⟩ = some (.slice u.ba u.back.length u.bc)) := fun W' f => ⟨f.cell1 (at_cells HT.out.b1 16 t.at_back) (by simp), f.cell1 (at_cells HT.out.b2 16 u.at_back) (by simp)⟩
  have C41 : Hid (∀ W', Fr [] W W' → Calls Tryd.prog 41 #[.slice t.ia t.ins.length t.ic, .slice u.ia u.ins.length u.ic] W' fun e w' => e = .returned (.bool (decide (t.ins = u.ins))) ∧ Fr [] W' w') := fun W' f => same41 (HT.out.fr f).o1.ins (HT.out.fr f).o2.ins
  have C42 : Hid (∀ W', Fr [] W W' → Calls Tryd.prog 42 #[.slice t.oa t.ops.length t.oc, .slice u.oa u.ops.length u.oc, .func (.func 43) #[] #[]] W' fun e w' => e = .returned (.bool (decide (t.ops.map El.abs = u.ops.map El.abs))) ∧ Fr [] W' w') := fun W' f => eqf42 (HT.out.fr f).o1.ops (HT.out.fr f).o1.opl (at_opsw HW.out.1) (HT.out.fr f).o2.ops (HT.out.fr f).o2.opl (at_opsw HW.out.2) (by have := HT.out.o1.ops.fit; omega)
  have C44 : Hid (∀ W', Fr [] W W' → Calls Tryd.prog 44 #[.slice t.la t.links.length t.lc, .slice u.la u.links.length u.lc, .func (.func 45) #[] #[]] W' fun e w' => e = .returned (.bool (decide (t.links.map El.abs = u.links.map El.abs))) ∧ Fr [] W' w') := fun W' f => eqf44 (HT.out.fr f).o1.links (HT.out.fr f).o1.linkl (at_linksw HW.out.1) (HT.out.fr f).o2.links (HT.out.fr f).o2.linkl (at_linksw HW.out.2) (by have := HT.out.o1.links.fit; omega)
  have C46 : Hid (∀ W', Fr [] W W' → Calls Tryd.prog 46 #[.slice t.va t.virts.length t.vc, .slice u.va u.virts.length u.vc, .func (.func 47) #[] #[]] W' fun e w' => e = .returned (.bool (decide (t.virts.map El.abs = u.virts.map El.abs))) ∧ Fr [] W' w') := fun W' f => eqf46 (HT.out.fr f).o1.virts (HT.out.fr f).o1.virtl (at_virtsw HW.out.1) (HT.out.fr f).o2.virts (HT.out.fr f).o2.virtl (at_virtsw HW.out.2) (by have := HT.out.o1.virts.fit; omega)
  have C48 : Hid (∀ W', Fr [] W W' → Calls Tryd.prog 48 #[.slice t.ba t.back.length t.bc, .slice u.ba u.back.length u.bc] W' fun e w' => e = .returned (.bool (decide (t.back = u.back))) ∧ Fr [] W' w') := fun W' f => same48 (HT.out.fr f).o1.back (HT.out.fr f).o2.back HW.out.1.bw HW.out.2.bw
  have HK : Hid (kw t.k ∧ kw u.k) := ⟨HW.out.1.kw, HW.out.2.kw⟩
  have A1 : Hid True := trivial
  have A2 : Hid True := trivial
  have A3 : Hid True := trivial
  clear HT HW
  have k12 := (K12.out W (Fr.refl _ _)).1
  have m12 := (K12.out W (Fr.refl _ _)).2
  by_cases e0 : t.k = u.k
  rotate_left
  · obtain rfl : z = false := HZ.out.trans (abs_ne (fun q => e0 q.1))
    have q0 := decide_eq_false e0
    clear HZ e0
    go_wp2_with (first
      | (have hA1 := A1; clear A1 hA1; refine wpList_ld26 rfl (.tmp 5) rfl w.heap.size 0 rfl t.k KR1.out ?_)
      | (have hA2 := A2; clear A2 hA2; refine wpList_ld26 rfl (.tmp 7) rfl (w.heap.size + 1) 0 rfl u.k KR2.out ?_)
      | (have hA3 := A3; clear A3 hA3; refine wpList_eql26 rfl (.tmp 6) (.tmp 8) rfl HK.out.1 HK.out.2 rfl rfl ?_; rw [q0]))
    go_ret
    exact ⟨rfl, HF.out⟩
  have q0 := decide_eq_true e0
  have HE0 : Hid (t.k = u.k) := e0
  clear e0
  by_cases e1 : t.fn = u.fn
  rotate_left
  · obtain rfl : z = false := HZ.out.trans (abs_ne (fun q => e1 q.2.1))
    clear HZ
    go_wp2_with (first
      | (have hA1 := A1; clear A1 hA1; refine wpList_ld26 rfl (.tmp 5) rfl w.heap.size 0 rfl t.k KR1.out ?_)
      | (have hA2 := A2; clear A2 hA2; refine wpList_ld26 rfl (.tmp 7) rfl (w.heap.size + 1) 0 rfl u.k KR2.out ?_)
      | (have hA3 := A3; clear A3 hA3; refine wpList_eql26 rfl (.tmp 6) (.tmp 8) rfl HK.out.1 HK.out.2 rfl rfl ?_; rw [q0]))
    go_ret
    exact ⟨rfl, HF.out⟩
  rw [← e1] at m10
  have HE1 : Hid (t.fn = u.fn) := e1
  clear e1
  by_cases e2 : t.pc = u.pc
  rotate_left
  · obtain rfl : z = false := HZ.out.trans (abs_ne (fun q => e2 q.2.2.1))
    clear HZ
    go_wp2_with (first
      | (have hA1 := A1; clear A1 hA1; refine wpList_ld26 rfl (.tmp 5) rfl w.heap.size 0 rfl t.k KR1.out ?_)
      | (have hA2 := A2; clear A2 hA2; refine wpList_ld26 rfl (.tmp 7) rfl (w.heap.size + 1) 0 rfl u.k KR2.out ?_)
      | (have hA3 := A3; clear A3 hA3; refine wpList_eql26 rfl (.tmp 6) (.tmp 8) rfl HK.out.1 HK.out.2 rfl rfl ?_; rw [q0]))
    go_ret
    exact ⟨rfl, HF.out⟩
  rw [← e2] at m11
  have HE2 : Hid (t.pc = u.pc) := e2
  clear e2
  by_cases e3 : t.ins = u.ins
  rotate_left
  · obtain rfl : z = false := HZ.out.trans (abs_ne (fun q => e3 q.2.2.2.1))
    have q3 := decide_eq_false e3
    clear HZ e3
    go_wp2_with (first
      | (have hA1 := A1; clear A1 hA1; refine wpList_ld26 rfl (.tmp 5) rfl w.heap.size 0 rfl t.k KR1.out ?_)
      | (have hA2 := A2; clear A2 hA2; refine wpList_ld26 rfl (.tmp 7) rfl (w.heap.size + 1) 0 rfl u.k KR2.out ?_)
      | (have hA3 := A3; clear A3 hA3; refine wpList_eql26 rfl (.tmp 6) (.tmp 8) rfl HK.out.1 HK.out.2 rfl rfl ?_; rw [q0])
      | (go_at_call 41; refine (C41.out _ (Fr.refl _ _)).mono ?_; rw [q3]; rintro e W3 ⟨rfl, f3⟩; have g3 := f3; have k13 := (K13.out _ g3).1; have m13 := (K13.out _ g3).2))
    go_ret
    exact ⟨rfl, HF.out.trans g3⟩
  have q3 := decide_eq_true e3
  have HE3 : Hid (t.ins = u.ins) := e3
  clear e3
  by_cases e4 : t.ops.map El.abs = u.ops.map El.abs
  rotate_left
  · obtain rfl : z = false := HZ.out.trans (abs_ne (fun q => e4 q.2.2.2.2.1))
    have q4 := decide_eq_false e4
    clear HZ e4
    go_wp2_with (first
      | (have hA1 := A1; clear A1 hA1; refine wpList_ld26 rfl (.tmp 5) rfl w.heap.size 0 rfl t.k KR1.out ?_)
      | (have hA2 := A2; clear A2 hA2; refine wpList_ld26 rfl (.tmp 7) rfl (w.heap.size + 1) 0 rfl u.k KR2.out ?_)
      | (have hA3 := A3; clear A3 hA3; refine wpList_eql26 rfl (.tmp 6) (.tmp 8) rfl HK.out.1 HK.out.2 rfl rfl ?_; rw [q0])
      | (go_at_call 41; refine (C41.out _ (Fr.refl _ _)).mono ?_; rw [q3]; rintro e W3 ⟨rfl, f3⟩; have g3 := f3; have k13 := (K13.out _ g3).1; have m13 := (K13.out _ g3).2)
      | (go_at_call 42; refine (C42.out _ g3).mono ?_; rw [q4]; rintro e W4 ⟨rfl, f4⟩; have g4 := g3.trans f4; have k14 := (K14.out _ g4).1; have m14 := (K14.out _ g4).2))
    go_ret
    exact ⟨rfl, HF.out.trans g4⟩
  have q4 := decide_eq_true e4
  have HE4 : Hid (t.ops.map El.abs = u.ops.map El.abs) := e4
  clear e4
  by_cases e5 : t.links.map El.abs = u.links.map El.abs
  rotate_left
  · obtain rfl : z = false := HZ.out.trans (abs_ne (fun q => e5 q.2.2.2.2.2.1))
    have q5 := decide_eq_false e5
    clear HZ e5
    go_wp2_with (first
      | (have hA1 := A1; clear A1 hA1; refine wpList_ld26 rfl (.tmp 5) rfl w.heap.size 0 rfl t.k KR1.out ?_)
      | (have hA2 := A2; clear A2 hA2; refine wpList_ld26 rfl (.tmp 7) rfl (w.heap.size + 1) 0 rfl u.k KR2.out ?_)
      | (have hA3 := A3; clear A3 hA3; refine wpList_eql26 rfl (.tmp 6) (.tmp 8) rfl HK.out.1 HK.out.2 rfl rfl ?_; rw [q0])
      | (go_at_call 41; refine (C41.out _ (Fr.refl _ _)).mono ?_; rw [q3]; rintro e W3 ⟨rfl, f3⟩; have g3 := f3; have k13 := (K13.out _ g3).1; have m13 := (K13.out _ g3).2)
      | (go_at_call 42; refine (C42.out _ g3).mono ?_; rw [q4]; rintro e W4 ⟨rfl, f4⟩; have g4 := g3.trans f4; have k14 := (K14.out _ g4).1; have m14 := (K14.out _ g4).2)
      | (go_at_call 44; refine (C44.out _ g4).mono ?_; rw [q5]; rintro e W5 ⟨rfl, f5⟩; have g5 := g4.trans f5; have k15 := (K15.out _ g5).1; have m15 := (K15.out _ g5).2))
    go_ret
    exact ⟨rfl, HF.out.trans g5⟩
  have q5 := decide_eq_true e5
  have HE5 : Hid (t.links.map El.abs = u.links.map El.abs) := e5
  clear e5
  by_cases e6 : t.virts.map El.abs = u.virts.map El.abs
  rotate_left
  · obtain rfl : z = false := HZ.out.trans (abs_ne (fun q => e6 q.2.2.2.2.2.2.1))
    have q6 := decide_eq_false e6
    clear HZ e6
    go_wp2_with (first
      | (have hA1 := A1; clear A1 hA1; refine wpList_ld26 rfl (.tmp 5) rfl w.heap.size 0 rfl t.k KR1.out ?_)
      | (have hA2 := A2; clear A2 hA2; refine wpList_ld26 rfl (.tmp 7) rfl (w.heap.size + 1) 0 rfl u.k KR2.out ?_)
      | (have hA3 := A3; clear A3 hA3; refine wpList_eql26 rfl (.tmp 6) (.tmp 8) rfl HK.out.1 HK.out.2 rfl rfl ?_; rw [q0])
      | (go_at_call 41; refine (C41.out _ (Fr.refl _ _)).mono ?_; rw [q3]; rintro e W3 ⟨rfl, f3⟩; have g3 := f3; have k13 := (K13.out _ g3).1; have m13 := (K13.out _ g3).2)
      | (go_at_call 42; refine (C42.out _ g3).mono ?_; rw [q4]; rintro e W4 ⟨rfl, f4⟩; have g4 := g3.trans f4; have k14 := (K14.out _ g4).1; have m14 := (K14.out _ g4).2)
      | (go_at_call 44; refine (C44.out _ g4).mono ?_; rw [q5]; rintro e W5 ⟨rfl, f5⟩; have g5 := g4.trans f5; have k15 := (K15.out _ g5).1; have m15 := (K15.out _ g5).2)
      | (go_at_call 46; refine (C46.out _ g5).mono ?_; rw [q6]; rintro e W6 ⟨rfl, f6⟩; have g6 := g5.trans f6; have k16 := (K16.out _ g6).1; have m16 := (K16.out _ g6).2))
    go_ret
    exact ⟨rfl, HF.out.trans g6⟩
  have q6 := decide_eq_true e6
  have HE6 : Hid (t.virts.map El.abs = u.virts.map El.abs) := e6
  clear e6
  by_cases e7 : t.back = u.back
  rotate_left
  · obtain rfl : z = false := HZ.out.trans (abs_ne (fun q => e7 q.2.2.2.2.2.2.2))
    have q7 := decide_eq_false e7
    clear HZ e7
    go_wp2_with (first
      | (have hA1 := A1; clear A1 hA1; refine wpList_ld26 rfl (.tmp 5) rfl w.heap.size 0 rfl t.k KR1.out ?_)
      | (have hA2 := A2; clear A2 hA2; refine wpList_ld26 rfl (.tmp 7) rfl (w.heap.size + 1) 0 rfl u.k KR2.out ?_)
      | (have hA3 := A3; clear A3 hA3; refine wpList_eql26 rfl (.tmp 6) (.tmp 8) rfl HK.out.1 HK.out.2 rfl rfl ?_; rw [q0])
      | (go_at_call 41; refine (C41.out _ (Fr.refl _ _)).mono ?_; rw [q3]; rintro e W3 ⟨rfl, f3⟩; have g3 := f3; have k13 := (K13.out _ g3).1; have m13 := (K13.out _ g3).2)
      | (go_at_call 42; refine (C42.out _ g3).mono ?_; rw [q4]; rintro e W4 ⟨rfl, f4⟩; have g4 := g3.trans f4; have k14 := (K14.out _ g4).1; have m14 := (K14.out _ g4).2)
      | (go_at_call 44; refine (C44.out _ g4).mono ?_; rw [q5]; rintro e W5 ⟨rfl, f5⟩; have g5 := g4.trans f5; have k15 := (K15.out _ g5).1; have m15 := (K15.out _ g5).2)
      | (go_at_call 46; refine (C46.out _ g5).mono ?_; rw [q6]; rintro e W6 ⟨rfl, f6⟩; have g6 := g5.trans f6; have k16 := (K16.out _ g6).1; have m16 := (K16.out _ g6).2)
      | (go_at_call 48; refine (C48.out _ g6).mono ?_; rw [q7]; rintro e W7 ⟨rfl, f7⟩; have g7 := g6.trans f7))
    go_ret
    exact ⟨rfl, HF.out.trans g7⟩
  have q7 := decide_eq_true e7
  have HE7 : Hid (t.back = u.back) := e7
  clear e7
  obtain rfl : z = true := HZ.out.trans (abs_eq ⟨HE0.out, HE1.out, HE2.out, HE3.out, HE4.out, HE5.out, HE6.out, HE7.out⟩)
  go_wp2_with (first
    | (have hA1 := A1; clear A1 hA1; refine wpList_ld26 rfl (.tmp 5) rfl w.heap.size 0 rfl t.k KR1.out ?_)
    | (have hA2 := A2; clear A2 hA2; refine wpList_ld26 rfl (.tmp 7) rfl (w.heap.size + 1) 0 rfl u.k KR2.out ?_)
    | (have hA3 := A3; clear A3 hA3; refine wpList_eql26 rfl (.tmp 6) (.tmp 8) rfl HK.out.1 HK.out.2 rfl rfl ?_; rw [q0])
    | (go_at_call 41; refine (C41.out _ (Fr.refl _ _)).mono ?_; rw [q3]; rintro e W3 ⟨rfl, f3⟩; have g3 := f3; have k13 := (K13.out _ g3).1; have m13 := (K13.out _ g3).2)
    | (go_at_call 42; refine (C42.out _ g3).mono ?_; rw [q4]; rintro e W4 ⟨rfl, f4⟩; have g4 := g3.trans f4; have k14 := (K14.out _ g4).1; have m14 := (K14.out _ g4).2)
    | (go_at_call 44; refine (C44.out _ g4).mono ?_; rw [q5]; rintro e W5 ⟨rfl, f5⟩; have g5 := g4.trans f5; have k15 := (K15.out _ g5).1; have m15 := (K15.out _ g5).2)
    | (go_at_call 46; refine (C46.out _ g5).mono ?_; rw [q6]; rintro e W6 ⟨rfl, f6⟩; have g6 := g5.trans f6; have k16 := (K16.out _ g6).1; have m16 := (K16.out _ g6).2)
    | (go_at_call 48; refine (C48.out _ g6).mono ?_; rw [q7]; rintro e W7 ⟨rfl, f7⟩; have g7 := g6.trans f7))
  go_ret
  exact ⟨rfl, HF.out.trans g7⟩
end Go.Proofs.YtkogfgbgmifcnaaDoor
