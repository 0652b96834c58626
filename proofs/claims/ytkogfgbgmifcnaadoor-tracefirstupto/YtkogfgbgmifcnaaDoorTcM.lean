/-
  A walk over what links take: pure, and as it lies; made, asked for; conditions: what lies in memory lies as told.
-/
import Derived.Test.YtkogfgbgmifcnaaDoorTcK
import Derived.Test.YtkogfgbgmifcnaaDoorCaG
namespace Go.Proofs.YtkogfgbgmifcnaaDoor
open Go.RowKit Go.Shelf Go.Maps Go.ChangeShapes
set_option linter.unusedVariables false
set_option linter.unusedSimpArgs false
/-- What a walk has come to: links, Virts. -/
structure MK where
  lm : List Bool
  vm : List Bool
/-- Sources are told: which Virts are come to, which wait. -/
def tellP : List Bool × List Nat → List Sr → List Bool × List Nat
  | st, [] => st
  | (vm, wt), s :: r => tellP (if s.k = 2 ∧ vm[s.n.toNat]? = some false then (vm.set s.n.toNat true, wt ++ [s.n.toNat]) else (vm, wt)) r
/-- The links above: marks, what is told. -/
def chainP (L : List AE) : Nat → List Bool → List Bool × List Nat → List Sr → Int → List Bool × (List Bool × List Nat) × List Sr
  | 0, lm, st, ys, _ => (lm, st, ys)
  | f + 1, lm, st, ys, n => if 0 ≤ n ∧ lm[n.toNat]? = some false then (match L[n.toNat]? with
    | some e => chainP L f (lm.set n.toNat true) (tellP st e.l) (ys ++ e.l) (e.p.headD 0)
    | none => (lm, st, ys)) else (lm, st, ys)
/-- The Virts that wait. -/
def virtsP (V : List AE) : Nat → List Bool × List Nat → List Sr → (List Bool × List Nat) × List Sr
  | 0, st, ys => (st, ys)
  | f + 1, (vm, wt), ys => match wt.getLast? with
    | none => ((vm, wt), ys)
    | some v => match V[v]? with
      | some e => virtsP V f (tellP (vm, wt.dropLast) e.l) (ys ++ e.l)
      | none => ((vm, wt), ys)
def walkP (a : AT) (m : MK) (n : Int) : List Sr × MK :=
  let c := chainP a.links (a.links.length + 1) m.lm (m.vm, []) [] n
  let v := virtsP a.virts (a.virts.length + 1) c.2.1 c.2.2
  (v.2, ⟨c.1, v.1.1⟩)
def bools (l : List Bool) : Array Value := (l.map Value.bool).toArray
/-- A walk in memory. -/
def Tr.wc (t : Tr) (lk vk : Nat) : Array Value := (t.cl ++ [Value.slice (some ⟨lk, 0, none⟩) t.links.length t.links.length, Value.slice (some ⟨vk, 0, none⟩) t.virts.length t.virts.length]).toArray
structure WK (w : World) (wb lk vk : Nat) (t : Tr) (m : MK) : Prop where
  blk : w.heap[wb]? = some (.cells (t.wc lk vk) 121 (0, 0))
  lb : w.heap[lk]? = some (.cells (bools m.lm) 4 (0, 0))
  vb : w.heap[vk]? = some (.cells (bools m.vm) 4 (0, 0))
  ll : m.lm.length = t.links.length
  vl : m.vm.length = t.virts.length
  ne : lk ≠ vk
theorem WK.fr {S : List Nat} {w w' : World} {wb lk vk : Nat} {t : Tr} {m : MK} (h : WK w wb lk vk t m) (f : Fr S w w') (h1 : wb ∉ S) (h2 : lk ∉ S) (h3 : vk ∉ S) : WK w' wb lk vk t m :=
  ⟨(f.block _ (Array.getElem?_eq_some_iff.1 h.blk).1 h1).trans h.blk, (f.block _ (Array.getElem?_eq_some_iff.1 h.lb).1 h2).trans h.lb, (f.block _ (Array.getElem?_eq_some_iff.1 h.vb).1 h3).trans h.vb, h.ll, h.vl, h.ne⟩
theorem WK.fr0 {w w' : World} {wb lk vk : Nat} {t : Tr} {m : MK} (h : WK w wb lk vk t m) (f : Fr [] w w') : WK w' wb lk vk t m := h.fr f (by simp) (by simp) (by simp)
theorem Tr.wc_arr (t : Tr) (lk vk : Nat) {i : Nat} {u : Value} (h : t.arr[i]? = some u) : (t.wc lk vk)[i]? = some u := by
  have hi : i < t.cl.length := by
    have := (Array.getElem?_eq_some_iff.1 h).1
    simpa [Tr.arr] using this
  have h' : t.cl[i]? = some u := by simpa [Tr.arr] using h
  simp only [Tr.wc, List.getElem?_toArray]
  rw [List.getElem?_append_left hi, h']
theorem Tr.wc_l (t : Tr) (lk vk : Nat) : (t.wc lk vk)[17]? = some (.slice (some ⟨lk, 0, none⟩) t.links.length t.links.length) := by
  simp only [Tr.wc, List.getElem?_toArray]
  rw [List.getElem?_append_right (by rw [t.cl_len]; decide), t.cl_len]
  rfl
theorem Tr.wc_v (t : Tr) (lk vk : Nat) : (t.wc lk vk)[18]? = some (.slice (some ⟨vk, 0, none⟩) t.virts.length t.virts.length) := by
  simp only [Tr.wc, List.getElem?_toArray]
  rw [List.getElem?_append_right (by rw [t.cl_len]; decide), t.cl_len]
  rfl
theorem bools_at {l : List Bool} {i : Nat} {b : Bool} (h : l[i]? = some b) : (bools l)[i]? = some (.bool b) := by simp [bools, h]
theorem bools_set (l : List Bool) (i : Nat) (b : Bool) : (bools l).setIfInBounds i (.bool b) = bools (l.set i b) := by simp [bools, List.map_set]
theorem bools_made (n : Nat) : madeCells (Value.bool false).cells (n * 1) = bools (List.replicate n false) := by
  apply Array.ext_getElem?
  intro i
  rw [Nat.mul_one]
  by_cases h : i < n
  · rw [bools_at (b := false) (by simp [h])]
    simp [madeCells, Value.cells, h, Nat.mod_one]
  · rw [Array.getElem?_eq_none (by rw [size_madeCells]; omega), Array.getElem?_eq_none (by simp [bools]; omega)]
theorem cu119 : Tryd.prog.underlying 119 = some (.slice 4) := by kernel_rfl
theorem ci4 : (Tryd.prog.info? 4).map (fun i => (i.zero, i.size, i.bytes)) = some (some (.bool false), 1, 1) := by kernel_rfl
theorem make_bools (w : World) (n : Nat) (h : n ≤ 140737488355328) : (Instr.makeSlice 119 (.int .i64 n) (.int .i64 n)).run Tryd.prog w = .ok (.slice (some ⟨w.heap.size, 0, none⟩) n n) (w.alloc (.cells (bools (List.replicate n false)) 4)) := by
  obtain ⟨i, hi, hz, hs, hb⟩ := info_parts ci4
  have := run_make (P := Tryd.prog) w 119 4 i _ cu119 hi hz .i64 .i64 n n (by omega) (by omega) (by rw [hb]; omega) (by omega)
  rw [hs, Int.toNat_natCast, bools_made] at this
  exact this
set_option maxRecDepth 100000 in
theorem tell79_nil (w : World) (a : Option Addr) (c : Nat) (x y z : Value) : Calls Tryd.prog 79 #[.slice a 0 c, x, y, z] w fun e w' => e = .returned (.bool true) ∧ w' = w := by
  go_enter Tryd.func79, Tryd.ntmps79
  go_wp2
  go_loopw [10] (fun i wr => i = .int .i64 0 ∧ wr = w) (fun _ _ => 0)
  case atStart => exact ⟨rfl, rfl⟩
  case round =>
    obtain ⟨rfl, rfl⟩ := hrel
    go_wp2
    go_ret
    exact ⟨rfl, rfl⟩
set_option maxRecDepth 100000 in
/-- Asked for what a link takes. -/
theorem from63 (w : World) (wb : Nat) (n : Int) : Calls Tryd.prog 63 #[.pointer (some ⟨wb, 0, none⟩), .int .i64 n] w fun e w' => e = .returned (.func (.func 78) #[] #[.pointer (some ⟨w.heap.size, 0, none⟩), .pointer (some ⟨w.heap.size + 1, 0, none⟩)]) ∧ w' = (w.alloc (.cells #[.pointer (some ⟨wb, 0, none⟩)] 97)).alloc (.cells #[.int .i64 n] 3) := by
  go_enter Tryd.func63, Tryd.ntmps63
  go_wp2
  go_ret
  exact ⟨rfl, rfl⟩
theorem load33 {w : World} {b off : Nat} {cs : List Value} (hc : w.rangeAt b off cs) (hl : cs.length = 17) : (Instr.loadAt 33 (.pointer (some ⟨b, off, none⟩))).run Tryd.prog w = .ok (.agg cs.toArray) w := by
  simp only [Instr.loadAt, Instr.sureAddr, Sem.run_bind, Sem.run_pure, Result.andThen_ok, run_loadVar_mid w b off 33 cs _ hc Tryd.underlying33 rfl (by rw [hl]; exact info33)]
theorem yieldsIf_bld {ops : Array Oper} {S : World → Prop} {o : Oper} {a : Act} {r : Value} (hwt : Region.wanted o (yielded ops a.tmps) = true) (ty : TypeId) (ps : Array (Nat × Operand)) (ho : o.op = .build ty ps) (vs : Array (Nat × Value)) (hx : ps.map (fun p => (p.1, a.eval p.2)) = vs) (hr : ∀ w, (Instr.build ty vs).run Tryd.prog w = .ok r w) : YieldsIf Tryd.prog ops S o r a :=
  .inl ⟨hwt, fun w hS => by
    unfold execOp
    simp only [ho, hx, Sem.run_bind, hr w, Result.andThen_ok, Sem.run_pure]⟩
theorem wp_mk119 {o : Oper} {a : Act} {w : World} {K : Act → World → Prop} {Q : Exit → Act → World → Prop} (x y : Operand) (ho : o.op = .makeSlice 119 x y) (n : Nat) (hx : a.eval x = .int .i64 (n : Int)) (hy : a.eval y = .int .i64 (n : Int)) (hn : n ≤ 140737488355328)
    (h : K (a.put o.dst (.slice (some ⟨w.heap.size, 0, none⟩) n n)) (w.alloc (.cells (bools (List.replicate n false)) 4))) : o.wp Tryd.prog a w K Q := by
  unfold Oper.wp execOp
  simp only [ho, hx, hy, Sem.run_bind, make_bools w n hn, Result.andThen_ok, Sem.run_pure]
  exact h
theorem wp_bx121 {o : Oper} {a : Act} {w : World} {K : Act → World → Prop} {Q : Exit → Act → World → Prop} (x : Operand) (ho : o.op = .box 121 x) (A : Array Value) (hx : a.eval x = .agg A)
    (h : K (a.put o.dst (.pointer (some ⟨w.heap.size, 0, none⟩))) (w.alloc (.cells A 121))) : o.wp Tryd.prog a w K Q := by
  unfold Oper.wp execOp
  simp only [ho, hx]
  have e : (Instr.box 121 (.agg A)).run Tryd.prog w = .ok (.pointer (some ⟨w.heap.size, 0, none⟩)) (w.alloc (.cells A 121)) := by go_simp
  simp only [Sem.run_bind, e, Result.andThen_ok, Sem.run_pure]
  exact h
set_option maxRecDepth 100000 in
theorem bld (t : Tr) (lk vk : Nat) (w : World) : (Instr.build 121 #[(0, .agg t.cl.toArray), (1, .slice (some ⟨lk, 0, none⟩) t.links.length t.links.length), (2, .slice (some ⟨vk, 0, none⟩) t.virts.length t.virts.length)]).run Tryd.prog w = .ok (.agg (t.wc lk vk)) w := by
  obtain ⟨⟨x0, x1, x2, x3, x4, x5, x6, x7, x8, x9⟩, fn, pc, ia, ic, ins, oa, oc, ops, la, lc, links, va, vc, virts, ba, bc, back⟩ := t
  simp only [Tr.cl, Tr.tl, Tr.wc, kl0, List.map_cons, List.map_nil, List.cons_append, List.nil_append]
  generalize ins.length = n1
  generalize ops.length = n2
  generalize links.length = n3
  generalize virts.length = n4
  generalize back.length = n5
  kernel_rfl
set_option maxRecDepth 100000 in
set_option maxHeartbeats 8000000 in
/-- A walk that has come to nothing. -/
theorem walkOf62 {w : World} {B : Nat} {t : Tr} (hT : TrOk w B t) : Calls Tryd.prog 62 #[.agg t.arr] w fun e w' => ∃ wb lk vk, e = .returned (.pointer (some ⟨wb, 0, none⟩)) ∧ WK w' wb lk vk t ⟨List.replicate t.links.length false, List.replicate t.virts.length false⟩ ∧ Fr [] w w' ∧ w.heap.size ≤ wb ∧ w.heap.size ≤ lk ∧ w.heap.size ≤ vk := by
  have F1 : Fr [] w (w.alloc (.cells t.arr 33)) := (Fr.refl _ _).alloc _
  have hx := heap_alloc_new w (.cells t.arr 33)
  have nL : t.links.length ≤ 140737488355328 := by have := hT.links.fit; omega
  have nV : t.virts.length ≤ 140737488355328 := by have := hT.virts.fit; omega
  have nLI : (t.links.length : Int) ≤ 140737488355328 := by omega
  have nVI : (t.virts.length : Int) ≤ 140737488355328 := by omega
  have m14 : ∀ w', Fr [] (w.alloc (.cells t.arr 33)) w' → w'.cell? ⟨w.heap.size, 14, none⟩ = some (.slice t.la t.links.length t.lc) := fun w' f => f.cell1 (at_cells hx 14 t.at_links) (by simp)
  have m15 : ∀ w', Fr [] (w.alloc (.cells t.arr 33)) w' → w'.cell? ⟨w.heap.size, 15, none⟩ = some (.slice t.va t.virts.length t.vc) := fun w' f => f.cell1 (at_cells hx 15 t.at_virts) (by simp)
  have M1 : Hid (∀ w', Fr [] (w.alloc (.cells t.arr 33)) w' → w'.rangeAt w.heap.size 0 t.cl) := fun w' f => range_fr (show (w.alloc (.cells t.arr 33)).rangeAt w.heap.size 0 t.cl from range_block hx) f
  have HF : Hid (Fr [] w (w.alloc (.cells t.arr 33)) ∧ w.heap.size ≤ (w.alloc (.cells t.arr 33)).heap.size) := ⟨F1, F1.size⟩
  clear hx hT F1
  go_enter Tryd.func62, Tryd.ntmps62
  go_upto_region 1 with fail
  generalize w.alloc (.cells t.arr 33) = V at *
  generalize hb0 : w.heap.size = b0 at *
  refine reg_in (fun w' => Fr [] V w') ?_
  have hS : Fr [] V V.drew := (Fr.refl _ _).drew
  generalize V.drew = Y at *
  refine tk 0 (some 3) (.agg t.cl.toArray) rfl rfl ?_ (by decide +kernel) hS ?_
  · exact yieldsIf_load_mid rfl 33 (.tmp 1) rfl b0 0 rfl t.cl _ (fun wq hSq => M1.out wq hSq) Tryd.underlying33 rfl (by rw [Tr.cl_len]; exact info33)
  simp only [Act.put, List.setIfInBounds_toArray, List.set_cons_zero, List.set_cons_succ]
  refine tk 1 (some 4) (.pointer (some ⟨b0, 14, none⟩)) rfl rfl (Or.inl ⟨rfl, fun wq hSq => by first | rfl | go_simp⟩) (by decide +kernel) hS ?_
  simp only [Act.put, List.setIfInBounds_toArray, List.set_cons_zero, List.set_cons_succ]
  refine tk 2 (some 5) (.slice t.la t.links.length t.lc) rfl rfl (Or.inl ⟨rfl, fun wq hSq => by have q := m14 wq hSq; go_simp⟩) (by decide +kernel) hS ?_
  simp only [Act.put, List.setIfInBounds_toArray, List.set_cons_zero, List.set_cons_succ]
  refine tk 3 (some 6) (.int .i64 (t.links.length : Int)) rfl rfl (Or.inl ⟨rfl, fun wq hSq => by go_simp⟩) (by decide +kernel) hS ?_
  simp only [Act.put, List.setIfInBounds_toArray, List.set_cons_zero, List.set_cons_succ]
  refine tk 5 (some 8) (.pointer (some ⟨b0, 15, none⟩)) rfl rfl (Or.inl ⟨rfl, fun wq hSq => by first | rfl | go_simp⟩) (by decide +kernel) hS ?_
  simp only [Act.put, List.setIfInBounds_toArray, List.set_cons_zero, List.set_cons_succ]
  refine tk 6 (some 9) (.slice t.va t.virts.length t.vc) rfl rfl (Or.inl ⟨rfl, fun wq hSq => by have q := m15 wq hSq; go_simp⟩) (by decide +kernel) hS ?_
  simp only [Act.put, List.setIfInBounds_toArray, List.set_cons_zero, List.set_cons_succ]
  refine tk 7 (some 10) (.int .i64 (t.virts.length : Int)) rfl rfl (Or.inl ⟨rfl, fun wq hSq => by go_simp⟩) (by decide +kernel) hS ?_
  simp only [Act.put, List.setIfInBounds_toArray, List.set_cons_zero, List.set_cons_succ]
  refine wpAnyH_ready (rs := [4, 8]) (by decide +kernel) (by simp) ?_
  refine AllReadyH.cons rfl (fun K hK => ?_) ?_
  · skip
    refine wp_mk119 (.tmp 6) (.tmp 6) rfl t.links.length rfl rfl nL ?_
    have eL := heap_alloc_new Y (.cells (bools (List.replicate t.links.length false)) 4)
    have hAL : Fr [] Y (Y.alloc (.cells (bools (List.replicate t.links.length false)) 4)) := (Fr.refl _ _).alloc _
    have hzL : V.heap.size ≤ Y.heap.size := hS.size
    have hS := hS.alloc (.cells (bools (List.replicate t.links.length false)) 4)
    generalize Y.alloc (.cells (bools (List.replicate t.links.length false)) 4) = Y4 at *
    generalize Y.heap.size = kL at *
    refine hK.out _ _ hS (fun _ => ?_)
    clear hK K
    try simp only [List.getElem_toArray, List.getElem_cons_succ, List.getElem_cons_zero, Act.put, List.setIfInBounds_toArray, List.set_cons_zero, List.set_cons_succ]
    refine wpAnyH_ready (rs := [8]) (by decide +kernel) (by simp) ?_
    refine AllReadyH.cons rfl (fun K hK => ?_) AllReadyH.nil
    refine wp_mk119 (.tmp 10) (.tmp 10) rfl t.virts.length rfl rfl nV ?_
    have eV := heap_alloc_new Y4 (.cells (bools (List.replicate t.virts.length false)) 4)
    have hAV : Fr [] Y4 (Y4.alloc (.cells (bools (List.replicate t.virts.length false)) 4)) := (Fr.refl _ _).alloc _
    have hzV : V.heap.size ≤ Y4.heap.size := hS.size
    have hne : kL ≠ Y4.heap.size := by have := (Array.getElem?_eq_some_iff.1 eL).1; omega
    have eL := (hAV.block _ (Array.getElem?_eq_some_iff.1 eL).1 (by simp)).trans eL
    have hS := hS.alloc (.cells (bools (List.replicate t.virts.length false)) 4)
    generalize Y4.alloc (.cells (bools (List.replicate t.virts.length false)) 4) = Y8 at *
    generalize Y4.heap.size = kV at *
    refine hK.out _ _ hS (fun _ => ?_)
    clear hK K
    try simp only [List.getElem_toArray, List.getElem_cons_succ, List.getElem_cons_zero, Act.put, List.setIfInBounds_toArray, List.set_cons_zero, List.set_cons_succ]
    refine tk 9 (some 12) (.agg (t.wc kL kV)) rfl rfl ?_ (by decide +kernel) hS ?_
    · exact yieldsIf_bld rfl 121 _ rfl #[(0, .agg t.cl.toArray), (1, .slice (some ⟨kL, 0, none⟩) t.links.length t.links.length), (2, .slice (some ⟨kV, 0, none⟩) t.virts.length t.virts.length)] (by first | rfl | (simp; exact ⟨rfl, rfl, rfl⟩)) (fun w => bld t kL kV w)
    simp only [Act.put, List.setIfInBounds_toArray, List.set_cons_zero, List.set_cons_succ]
    refine wpAnyH_ready (rs := [10]) (by decide +kernel) (by simp) ?_
    refine AllReadyH.cons rfl (fun K hK => ?_) AllReadyH.nil
    have eW := heap_alloc_new Y8 (.cells (t.wc kL kV) 121)
    have hW : Fr [] Y8 (Y8.alloc (.cells (t.wc kL kV) 121)) := (Fr.refl _ _).alloc _
    have eL := (hW.block _ (Array.getElem?_eq_some_iff.1 eL).1 (by simp)).trans eL
    have eV := (hW.block _ (Array.getElem?_eq_some_iff.1 eV).1 (by simp)).trans eV
    have hzW : V.heap.size ≤ Y8.heap.size := hS.size
    have hS := hS.alloc (.cells (t.wc kL kV) 121)
    refine wp_bx121 (.tmp 12) rfl (t.wc kL kV) rfl ?_
    generalize Y8.alloc (.cells (t.wc kL kV) 121) = YW at *
    generalize Y8.heap.size = kW at *
    refine hK.out _ _ hS (fun _ => ?_)
    clear hK K
    try simp only [List.getElem_toArray, List.getElem_cons_succ, List.getElem_cons_zero, Act.put, List.setIfInBounds_toArray, List.set_cons_zero, List.set_cons_succ]
    refine tk 11 (some 2) (.pointer (some ⟨kW, 0, none⟩)) rfl rfl (Or.inl ⟨rfl, fun wq hSq => by first | rfl | go_simp⟩) (by decide +kernel) hS ?_
    simp only [Act.put, List.setIfInBounds_toArray, List.set_cons_zero, List.set_cons_succ]
    refine wpAnyH_done (by decide +kernel) ?_ _
    refine plain_end ?_
    have HW : Hid (WK YW kW kL kV t ⟨List.replicate t.links.length false, List.replicate t.virts.length false⟩) := ⟨eW, eL, eV, by simp, by simp, by omega⟩
    have HS : Hid (Fr [] V YW ∧ V.heap.size ≤ kW ∧ V.heap.size ≤ kL ∧ V.heap.size ≤ kV) := ⟨hS, hzW, hzL, hzV⟩
    clear eW eL eV hS hW hAL hAV
    go_wp2
    go_ret
    exact ⟨kW, kL, kV, rfl, HW.out, HF.out.1.trans HS.out.1, by have h1 := HF.out.2; have h2 := HS.out.2.1; omega, by have h1 := HF.out.2; have h2 := HS.out.2.2.1; omega, by have h1 := HF.out.2; have h2 := HS.out.2.2.2; omega⟩
  refine AllReadyH.cons rfl (fun K hK => ?_) AllReadyH.nil
  refine wp_mk119 (.tmp 10) (.tmp 10) rfl t.virts.length rfl rfl nV ?_
  have eV := heap_alloc_new Y (.cells (bools (List.replicate t.virts.length false)) 4)
  have hAV : Fr [] Y (Y.alloc (.cells (bools (List.replicate t.virts.length false)) 4)) := (Fr.refl _ _).alloc _
  have hzV : V.heap.size ≤ Y.heap.size := hS.size
  have hS := hS.alloc (.cells (bools (List.replicate t.virts.length false)) 4)
  generalize Y.alloc (.cells (bools (List.replicate t.virts.length false)) 4) = Y8 at *
  generalize Y.heap.size = kV at *
  refine hK.out _ _ hS (fun _ => ?_)
  clear hK K
  try simp only [List.getElem_toArray, List.getElem_cons_succ, List.getElem_cons_zero, Act.put, List.setIfInBounds_toArray, List.set_cons_zero, List.set_cons_succ]
  refine wpAnyH_ready (rs := [4]) (by decide +kernel) (by simp) ?_
  refine AllReadyH.cons rfl (fun K hK => ?_) AllReadyH.nil
  refine wp_mk119 (.tmp 6) (.tmp 6) rfl t.links.length rfl rfl nL ?_
  have eL := heap_alloc_new Y8 (.cells (bools (List.replicate t.links.length false)) 4)
  have hAL : Fr [] Y8 (Y8.alloc (.cells (bools (List.replicate t.links.length false)) 4)) := (Fr.refl _ _).alloc _
  have hzL : V.heap.size ≤ Y8.heap.size := hS.size
  have hne : kV ≠ Y8.heap.size := by have := (Array.getElem?_eq_some_iff.1 eV).1; omega
  have eV := (hAL.block _ (Array.getElem?_eq_some_iff.1 eV).1 (by simp)).trans eV
  have hS := hS.alloc (.cells (bools (List.replicate t.links.length false)) 4)
  generalize Y8.alloc (.cells (bools (List.replicate t.links.length false)) 4) = Y4 at *
  generalize Y8.heap.size = kL at *
  refine hK.out _ _ hS (fun _ => ?_)
  clear hK K
  try simp only [List.getElem_toArray, List.getElem_cons_succ, List.getElem_cons_zero, Act.put, List.setIfInBounds_toArray, List.set_cons_zero, List.set_cons_succ]
  refine tk 9 (some 12) (.agg (t.wc kL kV)) rfl rfl ?_ (by decide +kernel) hS ?_
  · exact yieldsIf_bld rfl 121 _ rfl #[(0, .agg t.cl.toArray), (1, .slice (some ⟨kL, 0, none⟩) t.links.length t.links.length), (2, .slice (some ⟨kV, 0, none⟩) t.virts.length t.virts.length)] (by first | rfl | (simp; exact ⟨rfl, rfl, rfl⟩)) (fun w => bld t kL kV w)
  simp only [Act.put, List.setIfInBounds_toArray, List.set_cons_zero, List.set_cons_succ]
  refine wpAnyH_ready (rs := [10]) (by decide +kernel) (by simp) ?_
  refine AllReadyH.cons rfl (fun K hK => ?_) AllReadyH.nil
  have eW := heap_alloc_new Y4 (.cells (t.wc kL kV) 121)
  have hW : Fr [] Y4 (Y4.alloc (.cells (t.wc kL kV) 121)) := (Fr.refl _ _).alloc _
  have eL := (hW.block _ (Array.getElem?_eq_some_iff.1 eL).1 (by simp)).trans eL
  have eV := (hW.block _ (Array.getElem?_eq_some_iff.1 eV).1 (by simp)).trans eV
  have hzW : V.heap.size ≤ Y4.heap.size := hS.size
  have hS := hS.alloc (.cells (t.wc kL kV) 121)
  refine wp_bx121 (.tmp 12) rfl (t.wc kL kV) rfl ?_
  generalize Y4.alloc (.cells (t.wc kL kV) 121) = YW at *
  generalize Y4.heap.size = kW at *
  refine hK.out _ _ hS (fun _ => ?_)
  clear hK K
  try simp only [List.getElem_toArray, List.getElem_cons_succ, List.getElem_cons_zero, Act.put, List.setIfInBounds_toArray, List.set_cons_zero, List.set_cons_succ]
  refine tk 11 (some 2) (.pointer (some ⟨kW, 0, none⟩)) rfl rfl (Or.inl ⟨rfl, fun wq hSq => by first | rfl | go_simp⟩) (by decide +kernel) hS ?_
  simp only [Act.put, List.setIfInBounds_toArray, List.set_cons_zero, List.set_cons_succ]
  refine wpAnyH_done (by decide +kernel) ?_ _
  refine plain_end ?_
  have HW : Hid (WK YW kW kL kV t ⟨List.replicate t.links.length false, List.replicate t.virts.length false⟩) := ⟨eW, eL, eV, by simp, by simp, by omega⟩
  have HS : Hid (Fr [] V YW ∧ V.heap.size ≤ kW ∧ V.heap.size ≤ kL ∧ V.heap.size ≤ kV) := ⟨hS, hzW, hzL, hzV⟩
  clear eW eL eV hS hW hAL hAV
  go_wp2
  go_ret
  exact ⟨kW, kL, kV, rfl, HW.out, HF.out.1.trans HS.out.1, by have h1 := HF.out.2; have h2 := HS.out.2.1; omega, by have h1 := HF.out.2; have h2 := HS.out.2.2.1; omega, by have h1 := HF.out.2; have h2 := HS.out.2.2.2; omega⟩
end Go.Proofs.YtkogfgbgmifcnaaDoor
