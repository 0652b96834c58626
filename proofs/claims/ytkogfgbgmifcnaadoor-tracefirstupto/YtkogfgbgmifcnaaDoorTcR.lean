/-
  Check: what is thrown is caught, and told; conditions: the trace and the table lie as told.
-/
import Derived.Test.YtkogfgbgmifcnaaDoorTcQ
import Derived.Recover
namespace Go.Proofs.YtkogfgbgmifcnaaDoor
open Go.RowKit Go.Shelf Go.Maps Go.ChangeShapes
set_option linter.unusedVariables false
set_option linter.unusedSimpArgs false
theorem wp_tmps {c : Code} {Q : Exit → Act → World → Prop} {X Y : Array Value} {w : World} (h : X = Y) (k : c.wp Tryd.prog Q { tmps := Y, defers := [] } w) : c.wp Tryd.prog Q { tmps := X, defers := [] } w := h ▸ k
set_option maxRecDepth 100000 in
set_option maxHeartbeats 2000000 in
theorem catch_idle (p q : Addr) (w : World) :
    CallsD Tryd.prog 69 #[.pointer (some p), .pointer (some q)] .returning w fun e u' w' => e = .returned (.tuple #[]) ∧ u' = .returning ∧ w' = w := by
  refine callsD_of_wpS Tryd.func69 rfl fun c₀ cs hu => ?_
  apply wpS_seq
  apply wpS_region
  simp [wpOpsS, go_sem, recoverD, hu, Tryd.ntmps69, Exit.thenS]
  apply wpS_of_wp
  refine wp_tmps (Y := #[.pointer (some p), .pointer (some q), undef, undef, undef, .nilIface, undef, undef, undef, undef, undef, undef, undef]) rfl ?_
  go_wp2
  cases c₀
  simp_all [bodyPostS, results, Tryd.results69]
def PlainE (K : World → Prop) : Exit → Act → World → Prop := fun e a w => (e = .normal ∨ e = .ret) ∧ a.defers = [] ∧ K w
theorem assert107 (v : Value) (w : World) : (Instr.typeAssert (.iface 107 v) 20 107 true).run Tryd.prog w = .ok (.tuple #[v, .bool true]) w := by kernel_rfl
set_option maxRecDepth 100000 in
set_option maxHeartbeats 4000000 in
theorem catch_thrown (b1 b2 : Nat) (u v : Value) (p : Int) (w : World) (e1 : w.heap[b1]? = some (.cells #[u] 3 (0, 0))) (e2 : w.heap[b2]? = some (.cells #[v] 44 (0, 0))) :
    CallsD Tryd.prog 69 #[.pointer (some ⟨b1, 0, none⟩), .pointer (some ⟨b2, 0, none⟩)] (.panicking [{ v := .iface 107 (.agg #[.int .i64 p]), recovered := false }]) w fun e u' w' => e = .returned (.tuple #[]) ∧ u' = .panicking [{ v := .iface 107 (.agg #[.int .i64 p]), recovered := true }] ∧ w'.heap[b1]? = some (.cells #[.int .i64 p] 3 (0, 0)) ∧ w'.heap[b2]? = some (.cells #[.int .i64 160] 44 (0, 0)) ∧ Fr [b1, b2] w w' := by
  have hne : b1 ≠ b2 := by rintro rfl; exact absurd (ne_cells e1 e2) (by decide)
  refine callsD_of_wpS Tryd.func69 rfl fun c₀ cs hu => ?_
  apply wpS_seq
  apply wpS_region
  simp [wpOpsS, go_sem, recoverD, hu, Tryd.ntmps69, Exit.thenS]
  apply wpS_of_wp
  refine wp_mono (Q := PlainE (fun w' => w'.heap[b1]? = some (.cells #[.int .i64 p] 3 (0, 0)) ∧ w'.heap[b2]? = some (.cells #[.int .i64 160] 44 (0, 0)) ∧ Fr [b1, b2] w w')) ?_ (fun e a w' hh => by
    obtain ⟨he, hd, hK⟩ := hh
    rcases he with rfl | rfl
    · exact ⟨hd, _, rfl, .tuple #[], by simp [results, Tryd.results69], rfl, rfl, hK⟩
    · exact ⟨hd, _, rfl, .tuple #[], by simp [results, Tryd.results69], rfl, rfl, hK⟩)
  generalize hQ : PlainE (fun w' => w'.heap[b1]? = some (.cells #[.int .i64 p] 3 (0, 0)) ∧ w'.heap[b2]? = some (.cells #[.int .i64 160] 44 (0, 0)) ∧ Fr [b1, b2] w w') = QQ
  have HQ : Hid (PlainE (fun w' => w'.heap[b1]? = some (.cells #[.int .i64 p] 3 (0, 0)) ∧ w'.heap[b2]? = some (.cells #[.int .i64 160] 44 (0, 0)) ∧ Fr [b1, b2] w w') = QQ) := hQ
  clear hQ hu
  refine wp_tmps (Y := #[.pointer (some ⟨b1, 0, none⟩), .pointer (some ⟨b2, 0, none⟩), undef, undef, undef, .iface 107 (.agg #[.int .i64 p]), undef, undef, undef, undef, undef, undef, undef]) rfl ?_
  have ha := assert107 (.agg #[.int .i64 p]) w
  have hq : ∀ w v, (binOp .eql 20 (.iface 107 v) .nilIface).run Tryd.prog w = .ok (.bool false) w := fun w v => by kernel_rfl
  have gA : Fr [] w (w.alloc (.cells #[.int .i64 p] 107)) := (Fr.refl _ _).alloc _
  have bA := heap_alloc_new w (.cells #[.int .i64 p] 107)
  have E1 := (gA.block _ (at_lt e1) (by simp)).trans e1
  have E2 := (gA.block _ (at_lt e2) (by simp)).trans e2
  go_upto_region 7 with fail
  generalize w.alloc (.cells #[.int .i64 p] 107) = Y at *
  have a0 : Y.cell? ⟨w.heap.size, 0, none⟩ = some (.int .i64 p) := at_cells bA 0 rfl
  have d1 : Y.cell? ⟨b1, 0, none⟩ = some u := at_cells E1 0 rfl
  have d2 : Y.cell? ⟨b2, 0, none⟩ = some v := at_cells E2 0 rfl
  have z1 : Y.frozen? ⟨b1, 0, none⟩ = false := frz E1
  have z2 : Y.frozen? ⟨b2, 0, none⟩ = false := frz E2
  have HE : Hid (Y.heap[b1]? = some (.cells #[u] 3 (0, 0)) ∧ Y.heap[b2]? = some (.cells #[v] 44 (0, 0)) ∧ Fr [] w Y ∧ b1 ≠ b2) := ⟨E1, E2, gA, hne⟩
  have n1 : b1 ≠ b2 := hne
  clear e1 e2 gA bA E1 E2 ha hq hne
  go_wp2
  rw [← HQ.out]
  have g1 := set_same (v := .int .i64 p) HE.out.1
  have g2 := set_other (v := .int .i64 p) (Ne.symm n1) HE.out.2.1
  refine ⟨.inl rfl, rfl, set_other n1 g1, set_same g2, ?_⟩
  exact ((HE.out.2.2.1.sub (by simp)).setCell (.inl (by simp)) _).setCell (.inl (by simp)) _
set_option maxRecDepth 100000 in
theorem bld109 (t : Tr) (w : World) : (Instr.build 109 #[(0, .agg t.arr)]).run Tryd.prog w = .ok (.agg (t.jc 0 (.pointer none))) w := by
  obtain ⟨⟨x0, x1, x2, x3, x4, x5, x6, x7, x8, x9⟩, fn, pc, ia, ic, ins, oa, oc, ops, la, lc, links, va, vc, virts, ba, bc, back⟩ := t
  simp only [Tr.arr, Tr.cl, Tr.tl, Tr.jc, kl0, List.map_cons, List.map_nil, List.cons_append, List.nil_append]
  generalize ins.length = n1
  generalize ops.length = n2
  generalize links.length = n3
  generalize virts.length = n4
  generalize back.length = n5
  kernel_rfl
theorem wpList_bld {ops : Array Oper} {rest : List Oper} {o : Oper} {a : Act} {w : World} {Q : Exit → Act → World → Prop} (hgd : o.guard = none) (ty : TypeId) (ps : Array (Nat × Operand)) (ho : o.op = .build ty ps) (vs : Array (Nat × Value)) (hx : ps.map (fun p => (p.1, a.eval p.2)) = vs) (v : Value) (hr : (Instr.build ty vs).run Tryd.prog w = .ok v w)
    (h : wpList Tryd.prog ops Q rest (a.put o.dst v) w) : wpList Tryd.prog ops Q (o :: rest) a w :=
  wpList_plain hgd fun K hK => by
    unfold Oper.wp execOp
    simp only [ho, hx, Sem.run_bind, hr, Result.andThen_ok, Sem.run_pure]
    exact hK _ _ h
theorem info109j : (Tryd.prog.info? 109).map (·.size) = some 19 := by kernel_rfl
theorem Tr.jc_size (t : Tr) (p : Int) (wp : Value) : (t.jc p wp).size = 19 := by simp [Tr.jc, Tr.cl_len]
theorem Tr.jc_one (t : Tr) (p : Int) (wp : Value) (hw : wp.oneCell' = true) : (t.jc p wp).all (·.oneCell') = true := by
  rw [Array.all_eq_true_iff_forall_mem]
  intro u hu
  simp only [Tr.jc, List.mem_toArray, List.mem_append, List.mem_cons, List.not_mem_nil, or_false] at hu
  rcases hu with h | rfl | rfl
  · exact t.cl_one u h
  · rfl
  · exact hw
def chkAt (a : AT) : Int := (wholeP a).getD 0
def chkE (a : AT) : Int := if (wholeP a).isSome then 160 else 0
set_option maxRecDepth 100000 in
set_option maxHeartbeats 8000000 in
/-- What Check answers. -/
theorem judged50 {w : World} {B : Nat} {t : Tr} (sp : TellSpec t) (ht : Tab w) (hT : TrOk w B t) (ha : ATOk t.abs) : Calls Tryd.prog 50 #[.agg t.arr] w fun e w' => e = .returned (.tuple #[.int .i64 (chkAt t.abs), .int .i64 (chkE t.abs)]) ∧ Fr [] w w' := by
  have hmf : ∀ (fn : Fn) (first cap : Array Value) (w : World), (Instr.makeFunc fn first cap).run Tryd.prog w = .ok (.func fn first cap) w := fun _ _ _ _ => rfl
  have f2 : Fr [] w (((w.alloc (.cells t.arr 33)).alloc (.cells #[.int .i64 0] 3)).alloc (.cells #[.int .i64 0] 44)) := (((Fr.refl _ _).alloc _).alloc _).alloc _
  have b1 : (((w.alloc (.cells t.arr 33)).alloc (.cells #[.int .i64 0] 3)).alloc (.cells #[.int .i64 0] 44)).heap[w.heap.size]? = some (.cells t.arr 33 (0, 0)) := ((((Fr.refl [] _).alloc _).alloc _).block _ (by simp) (by simp)).trans (heap_alloc_new w _)
  have b2 : (((w.alloc (.cells t.arr 33)).alloc (.cells #[.int .i64 0] 3)).alloc (.cells #[.int .i64 0] 44)).heap[w.heap.size + 1]? = some (.cells #[.int .i64 0] 3 (0, 0)) := (((Fr.refl [] _).alloc _).block _ (by simp) (by simp)).trans (blk2 w _ _)
  have b3 : (((w.alloc (.cells t.arr 33)).alloc (.cells #[.int .i64 0] 3)).alloc (.cells #[.int .i64 0] 44)).heap[w.heap.size + 1 + 1]? = some (.cells #[.int .i64 0] 44 (0, 0)) := by
    have := heap_alloc_new ((w.alloc (.cells t.arr 33)).alloc (.cells #[.int .i64 0] 3)) (.cells #[.int .i64 0] 44)
    simpa using this
  have HG : Hid (TellSpec t ∧ Tab w ∧ TrOk w B t ∧ ATOk t.abs) := ⟨sp, ht, hT, ha⟩
  have HBL : Hid (∀ w, (Instr.build 109 #[(0, .agg t.arr)]).run Tryd.prog w = .ok (.agg (t.jc 0 (.pointer none))) w) := bld109 t
  clear sp ht hT ha
  go_enter_defers Tryd.func50, Tryd.ntmps50
  go_upto_region 1 with fail
  generalize ((w.alloc (.cells t.arr 33)).alloc (.cells #[.int .i64 0] 3)).alloc (.cells #[.int .i64 0] 44) = W at *
  have HB : Hid (Fr [] w W ∧ W.heap[w.heap.size]? = some (.cells t.arr 33 (0, 0)) ∧ W.heap[w.heap.size + 1]? = some (.cells #[.int .i64 0] 3 (0, 0)) ∧ W.heap[w.heap.size + 1 + 1]? = some (.cells #[.int .i64 0] 44 (0, 0))) := ⟨f2, b1, b2, b3⟩
  have HLO : Hid (w.heap.size ≤ w.heap.size + 1 ∧ w.heap.size ≤ w.heap.size + 1 + 1) := ⟨by omega, by omega⟩
  clear f2 b1 b2 b3
  obtain ⟨n0, hn0⟩ : ∃ n0, n0 = w.heap.size := ⟨_, rfl⟩
  obtain ⟨n2, hn2⟩ : ∃ n2, n2 = w.heap.size + 1 + 1 := ⟨_, rfl⟩
  obtain ⟨n1, hn1⟩ : ∃ n1, n1 = w.heap.size + 1 := ⟨_, rfl⟩
  rw [← hn2, ← hn1] at HLO
  rw [← hn2, ← hn1, ← hn0] at HB
  rw [← hn2, ← hn1, ← hn0]
  clear hn0 hn1 hn2
  have HA : Hid ((W.alloc (.cells #[.int .i64 0, .int .i64 0, .int .i64 0, .int .i64 0, .int .i64 0, .int .i64 0, .int .i64 0, .int .i64 0, .int .i64 0, .int .i64 0, .int .i64 0, .int .i64 0, .slice none 0 0, .slice none 0 0, .slice none 0 0, .slice none 0 0, .slice none 0 0, .int .i64 0, .pointer none] 109)).heap[W.heap.size]? = some (.cells #[.int .i64 0, .int .i64 0, .int .i64 0, .int .i64 0, .int .i64 0, .int .i64 0, .int .i64 0, .int .i64 0, .int .i64 0, .int .i64 0, .int .i64 0, .int .i64 0, .slice none 0 0, .slice none 0 0, .slice none 0 0, .slice none 0 0, .slice none 0 0, .int .i64 0, .pointer none] 109 (0, 0))) := heap_alloc_new W _
  have FA : Fr [] W ((W.alloc (.cells #[.int .i64 0, .int .i64 0, .int .i64 0, .int .i64 0, .int .i64 0, .int .i64 0, .int .i64 0, .int .i64 0, .int .i64 0, .int .i64 0, .int .i64 0, .int .i64 0, .slice none 0 0, .slice none 0 0, .slice none 0 0, .slice none 0 0, .slice none 0 0, .int .i64 0, .pointer none] 109)).setRow W.heap.size (t.jc 0 (.pointer none))) := ((Fr.refl _ _).alloc _).setRow (.inr (Nat.le_refl _)) _
  have JA : JB ((W.alloc (.cells #[.int .i64 0, .int .i64 0, .int .i64 0, .int .i64 0, .int .i64 0, .int .i64 0, .int .i64 0, .int .i64 0, .int .i64 0, .int .i64 0, .int .i64 0, .int .i64 0, .slice none 0 0, .slice none 0 0, .slice none 0 0, .slice none 0 0, .slice none 0 0, .int .i64 0, .pointer none] 109)).setRow W.heap.size (t.jc 0 (.pointer none))) W.heap.size t 0 (.pointer none) := setRow_heap _ _ _ (t.jc 0 (.pointer none)) _ _ HA.out
  have CW := whole70 HG.out.1 FA (HG.out.2.1.fr0 HB.out.1) (HG.out.2.2.1.fr0 HB.out.1) HG.out.2.2.2 JA (Nat.le_refl _)
  clear FA JA
  go_upto_region 3 with (first
    | refine wpList_ld33 rfl (.tmp 1) rfl n0 rfl t.arr t.arr_size HB.out.2.1 ?_
    | refine wpList_bld rfl 109 _ rfl #[(0, .agg t.arr)] (by simp; rfl) (.agg (t.jc 0 (.pointer none))) (HBL.out _) ?_
    | refine wpList_store_row rfl 109 (.tmp 4) (.tmp 7) rfl W.heap.size (t.jc 0 (.pointer none)) rfl rfl 109 _ HA.out (by rw [t.jc_size]; exact info109j) (by rw [t.jc_size]; rfl) (t.jc_one _ _ rfl) ?_)
  clear HA HBL hmf
  generalize (W.alloc (.cells #[.int .i64 0, .int .i64 0, .int .i64 0, .int .i64 0, .int .i64 0, .int .i64 0, .int .i64 0, .int .i64 0, .int .i64 0, .int .i64 0, .int .i64 0, .int .i64 0, .slice none 0 0, .slice none 0 0, .slice none 0 0, .slice none 0 0, .slice none 0 0, .int .i64 0, .pointer none] 109)).setRow W.heap.size (t.jc 0 (.pointer none)) = V at *
  generalize W.heap.size = jb at *
  have HC : Hid (chkAt t.abs = (wholeP t.abs).getD 0 ∧ chkE t.abs = if (wholeP t.abs).isSome then 160 else 0) := ⟨rfl, rfl⟩
  cases hwp : wholeP t.abs with
  | none =>
    have HR : Hid (chkAt t.abs = 0 ∧ chkE t.abs = 0) := by have h := HC.out; rw [hwp] at h; exact h
    have C2 : Calls Tryd.prog 70 #[.pointer (some ⟨jb, 0, none⟩)] V fun e w' => e = .returned (.tuple #[]) ∧ Fr [] W w' := CW.mono (by
      rintro e w' ⟨f, ⟨_, h⟩ | ⟨i, h, _⟩⟩
      · exact ⟨h, f⟩
      · rw [hwp] at h; cases h)
    clear CW HC hwp
    go_wp2_with fail
    with_reducible (refine C2.mono ?_)
    rintro e X ⟨rfl, fX⟩
    have h2 := (fX.block _ (at_lt HB.out.2.2.1) (by simp)).trans HB.out.2.2.1
    have h3 := (fX.block _ (at_lt HB.out.2.2.2) (by simp)).trans HB.out.2.2.2
    have c2 : X.cell? ⟨n1, 0, none⟩ = some (.int .i64 0) := at_cells h2 0 rfl
    have z2 : X.frozen? ⟨n1, 0, none⟩ = false := frz h2
    have c3 : X.cell? ⟨n2, 0, none⟩ = some (.int .i64 0) := at_cells h3 0 rfl
    have z3 : X.frozen? ⟨n2, 0, none⟩ = false := frz h3
    have hne : n1 ≠ n2 := by rintro rfl; exact absurd (ne_cells h2 h3) (by decide)
    have HX : Hid (Fr [] w X ∧ X.heap[n1]? = some (.cells #[.int .i64 0] 3 (0, 0)) ∧ X.heap[n2]? = some (.cells #[.int .i64 0] 44 (0, 0))) := ⟨HB.out.1.trans fX, h2, h3⟩
    clear C2 fX h2 h3
    go_wp2
    have g1 := set_same (v := .int .i64 0) HX.out.2.1
    have g2 := set_other (v := .int .i64 0) (Ne.symm hne) HX.out.2.2
    have k1 := set_other (v := .int .i64 0) hne g1
    have k2 := set_same (v := .int .i64 0) g2
    have hlo : w.heap.size ≤ n1 ∧ w.heap.size ≤ n2 := HLO.out
    have FZ : Fr [] w ((X.setCell ⟨n1, 0, none⟩ (.int .i64 0)).setCell ⟨n2, 0, none⟩ (.int .i64 0)) := (HX.out.1.setCell (.inr hlo.1) _).setCell (.inr hlo.2) _
    generalize (X.setCell ⟨n1, 0, none⟩ (.int .i64 0)).setCell ⟨n2, 0, none⟩ (.int .i64 0) = X1 at *
    refine leaves_cons (f := 69) (args := #[.pointer (some ⟨n1, 0, none⟩), .pointer (some ⟨n2, 0, none⟩)]) (by simp) (by simp [go_sem]) ?_
    refine (catch_idle _ _ _).mono ?_
    rintro e u' w'' ⟨rfl, rfl, rfl⟩
    have d1 := at_cells k1 0 rfl
    have d2 := at_cells k2 0 rfl
    simp [Leaves, settle, results, Tryd.results50, go_sem, d1, d2]
    exact ⟨⟨HR.out.1.symm, HR.out.2.symm⟩, FZ⟩
  | some i =>
    have HR : Hid (chkAt t.abs = i ∧ chkE t.abs = 160) := by have h := HC.out; rw [hwp] at h; exact h
    have C2 : Calls Tryd.prog 70 #[.pointer (some ⟨jb, 0, none⟩)] V fun e w' => e = thrown i ∧ Fr [] W w' := CW.mono (by
      rintro e w' ⟨f, ⟨h, _⟩ | ⟨i', h, h2⟩⟩
      · rw [hwp] at h; cases h
      · rw [hwp] at h; cases h; exact ⟨h2, f⟩)
    clear CW HC hwp
    go_wp2_with fail
    with_reducible (refine C2.mono ?_)
    rintro e X ⟨rfl, fX⟩
    have h2 := (fX.block _ (at_lt HB.out.2.2.1) (by simp)).trans HB.out.2.2.1
    have h3 := (fX.block _ (at_lt HB.out.2.2.2) (by simp)).trans HB.out.2.2.2
    have HX : Hid (Fr [] w X) := HB.out.1.trans fX
    have hlo : w.heap.size ≤ n1 ∧ w.heap.size ≤ n2 := HLO.out
    clear C2 fX
    unfold thrown
    refine leaves_cons (f := 69) (args := #[.pointer (some ⟨n1, 0, none⟩), .pointer (some ⟨n2, 0, none⟩)]) (by simp) (by simp [go_sem]) ?_
    refine (catch_thrown n1 n2 _ _ i X h2 h3).mono ?_
    rintro e u' w'' ⟨rfl, rfl, k1, k2, k3⟩
    have d1 := at_cells k1 0 rfl
    have d2 := at_cells k2 0 rfl
    simp [Leaves, settle, results, Tryd.results50, go_sem, d1, d2]
    exact ⟨⟨HR.out.1.symm, HR.out.2.symm⟩, HX.out.over k3 (fun k hk => by simp at hk; rcases hk with rfl | rfl; exact hlo.1; exact hlo.2)⟩
set_option maxRecDepth 100000 in
theorem check23 {w : World} {B : Nat} {t : Tr} (sp : TellSpec t) (ht : Tab w) (hT : TrOk w B t) (ha : ATOk t.abs) : Calls Tryd.prog 23 #[.agg t.arr] w fun e w' => e = .returned (.tuple #[.int .i64 (chkAt t.abs), .int .i64 (chkE t.abs)]) ∧ Fr [] w w' := by
  have F1 : Fr [] w (w.alloc (.cells t.arr 33)) := (Fr.refl _ _).alloc _
  have HX : Hid ((w.alloc (.cells t.arr 33)).heap[w.heap.size]? = some (.cells t.arr 33 (0, 0)) ∧ Fr [] w (w.alloc (.cells t.arr 33))) := ⟨heap_alloc_new w _, F1⟩
  have C := judged50 sp (ht.fr0 F1) (hT.fr0 F1) ha
  clear F1 sp ht hT ha
  go_enter Tryd.func23, Tryd.ntmps23
  go_upto_region 1 with fail
  generalize w.alloc (.cells t.arr 33) = V at *
  go_wp2_with (first
    | refine wpList_ld33 rfl (.tmp 1) rfl w.heap.size rfl t.arr t.arr_size HX.out.1 ?_
    | (go_at_call 50; refine C.mono ?_; rintro e w2 ⟨rfl, f2⟩; have HF := hid (HX.out.2.trans f2); clear f2 C))
  go_ret2
  exact ⟨rfl, HF.out⟩
end Go.Proofs.YtkogfgbgmifcnaaDoor
