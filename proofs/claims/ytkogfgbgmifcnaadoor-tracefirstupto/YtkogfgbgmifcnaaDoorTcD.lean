/-
  Values and sources compared; condition: they are numbers of 64 bits.
-/
import Derived.Test.YtkogfgbgmifcnaaDoorTcB
namespace Go.Proofs.YtkogfgbgmifcnaaDoor
open Go.RowKit Go.Shelf Go.Maps Go.ChangeShapes
open Go.Deep (trod_struct3_mk)
set_option linter.unusedVariables false
set_option linter.unusedSimpArgs false
set_option maxRecDepth 100000 in
theorem cells51 : Tryd.prog.cellsOf 51 = 4 := by kernel_rfl
def sd (s : Sr) : DataW Unit := .agg [.lit (.int .i64 s.k), .agg [.lit (.int .i64 s.vk), .lit (.int .i64 s.vn)], .lit (.int .i64 s.n)]
set_option maxRecDepth 100000 in
theorem row51 : (51 : TypeId) < Tryd.prog.types.size := of_decide_eq_true (by kernel_rfl)
set_option maxRecDepth 100000 in
theorem wide51 : (match Tryd.prog.underlying 51 with | some (.array _ _) | some (.struct _) => true | _ => false) = true := by rw [Tryd.underlying51]
set_option maxRecDepth 100000 in
theorem law51 : Keyed Tryd.prog 51 := Keyed.of_law (deep_law_laid laidOut (m := 6) (by omega) row51 (by kernel_rfl) wide51)
set_option maxRecDepth 100000 in
theorem deep51 : Tryd.prog.keyTypeAt (Tryd.prog.types.size + 1) 51 = true := by kernel_rfl
set_option maxRecDepth 100000 in
theorem keyOf51 {s : Sr} (h : s.w) : keyOf Tryd.prog 51 (.agg s.cl.toArray) = some (sd s).asKey := by
  refine (keyOf_asKey (H := Unit) (enc := fun _ => ()) (w := default) (base := 0) (sp := fun _ => true) (held := true) deep51 wide51 (by simp [Value.formed, Tryd.underlying51, cells51, Sr.cl, Sr.il]) (d := sd s) (ps := []) ?_).1
  refine ⟨4, ?_⟩
  obtain ⟨a, b, c, d⟩ := s
  simp only [Sr.w, Sr.il, List.mem_cons, List.not_mem_nil, or_false, forall_eq_or_imp, forall_eq] at h
  obtain ⟨h0, h1, h2, h3⟩ := h
  have := trod_struct3_mk (enc := fun _ => ()) (w := (default : World)) (base := 0) (spare := fun _ => true) (held := true) (n := 3) (cs := (⟨a, b, c, d⟩ : Sr).cl) Tryd.underlying51 (by rw [cells51]; rfl) (by rw [cells3]; exact tr3 _ 2 h0) (by rw [cells23]; exact tr23 _ 1 h1 h2) (by rw [cells3]; exact tr3 _ 2 h3)
  simpa [sd, Value.cells] using this
set_option maxRecDepth 100000 in
theorem Sr.cl_inj {s t : Sr} (h : Value.agg s.cl.toArray = Value.agg t.cl.toArray) : s = t := by
  obtain ⟨a, b, c, d⟩ := s
  obtain ⟨a', b', c', d'⟩ := t
  simpa [Sr.cl, Sr.il] using h
set_option maxRecDepth 100000 in
theorem equal51 (w : World) {s t : Sr} (hs : s.w) (ht : t.w) : (Op.equal 51 (.agg (s.cl.toArray)) (.agg (t.cl.toArray))).run Tryd.prog w = .ok (decide (s = t)) w := by
  obtain ⟨r, hr, hi⟩ := run_equal_deep w (m := 6) (by omega) (by kernel_rfl) wide51 (keyOf51 hs) (keyOf51 ht)
  have hr' : (Op.equal 51 (.agg (s.cl.toArray)) (.agg (t.cl.toArray))).run Tryd.prog w = .ok r w := hr
  rw [hr']
  congr 1
  have e : ((sd s).asKey = (sd t).asKey) ↔ (s = t) := ⟨fun h => Sr.cl_inj (law51.inj (keyOf51 hs) (by rw [h]; exact keyOf51 ht)), fun h => by rw [h]⟩
  by_cases h : (s = t)
  · rw [decide_eq_true h]; exact hi.2 (e.2 h)
  · rw [decide_eq_false h]
    cases r with
    | false => rfl
    | true => exact absurd (e.1 (hi.1 rfl)) h
set_option maxRecDepth 100000 in
theorem eql51 (w : World) {s t : Sr} (hs : s.w) (ht : t.w) : (binOp .eql 51 (.agg (s.cl.toArray)) (.agg (t.cl.toArray))).run Tryd.prog w = .ok (.bool (decide (s = t))) w := by
  simp [binOp, Sem.run_bind, equal51 w hs ht]
set_option maxRecDepth 100000 in
theorem neq51 (w : World) {s t : Sr} (hs : s.w) (ht : t.w) : (binOp .neq 51 (.agg (s.cl.toArray)) (.agg (t.cl.toArray))).run Tryd.prog w = .ok (.bool (!decide (s = t))) w := by
  simp [binOp, Sem.run_bind, equal51 w hs ht]
set_option maxRecDepth 100000 in
theorem eguard109 (w : World) (op : BinOp) (x y : Operand) (a b : Array Value) (hop : op = .eql ∨ op = .neq) : (eqGuard op 51 x y (.agg a) (.agg b)).run Tryd.prog w = .ok () w := by
  have : Tryd.prog.eqGuardType Tryd.prog.depth 51 = false := by kernel_rfl
  rcases hop with rfl | rfl <;> simp [eqGuard, program, this, Sem.run_bind, Sem.run, Result.andThen]
set_option maxRecDepth 100000 in
theorem neq26 (w : World) {a b : Ky} (ha : kw a) (hb : kw b) : (binOp .neq 26 (.agg (kc a)) (.agg (kc b))).run Tryd.prog w = .ok (.bool (!decide (a = b))) w := by
  simp [binOp, Sem.run_bind, equal26 w ha hb]
theorem row23 : (23 : TypeId) < Tryd.prog.types.size := of_decide_eq_true (by kernel_rfl)
set_option maxRecDepth 100000 in
theorem wide23 : (match Tryd.prog.underlying 23 with | some (.array _ _) | some (.struct _) => true | _ => false) = true := by rw [Tryd.underlying23]
set_option maxRecDepth 100000 in
theorem law23 : Keyed Tryd.prog 23 := Keyed.of_law (deep_law_laid laidOut (m := 6) (by omega) row23 (by kernel_rfl) wide23)
theorem deep23 : Tryd.prog.keyTypeAt (Tryd.prog.types.size + 1) 23 = true := by kernel_rfl
def vd (a b : Int) : DataW Unit := .agg [.lit (.int .i64 a), .lit (.int .i64 b)]
set_option maxRecDepth 100000 in
theorem keyOf23 {a b : Int} (h0 : (Lit.int .i64 a).wf = true) (h1 : (Lit.int .i64 b).wf = true) : keyOf Tryd.prog 23 (.agg #[.int .i64 a, .int .i64 b]) = some (vd a b).asKey := by
  refine (keyOf_asKey (H := Unit) (enc := fun _ => ()) (w := default) (base := 0) (sp := fun _ => true) (held := true) deep23 wide23 (by simp [Value.formed, Tryd.underlying23, cells23]) (d := vd a b) (ps := []) ?_).1
  refine ⟨4, ?_⟩
  have := tr23 (default : World) 2 h0 h1
  simpa [vd, Value.cells] using this
set_option maxRecDepth 100000 in
theorem equal23 (w : World) {a b c d : Int} (h0 : (Lit.int .i64 a).wf = true) (h1 : (Lit.int .i64 b).wf = true) (h2 : (Lit.int .i64 c).wf = true) (h3 : (Lit.int .i64 d).wf = true) : (Op.equal 23 (.agg #[.int .i64 a, .int .i64 b]) (.agg #[.int .i64 c, .int .i64 d])).run Tryd.prog w = .ok (decide (a = c ∧ b = d)) w := by
  obtain ⟨r, hr, hi⟩ := run_equal_deep w (m := 6) (by omega) (by kernel_rfl) wide23 (keyOf23 h0 h1) (keyOf23 h2 h3)
  have hr' : (Op.equal 23 (.agg #[.int .i64 a, .int .i64 b]) (.agg #[.int .i64 c, .int .i64 d])).run Tryd.prog w = .ok r w := hr
  rw [hr']
  congr 1
  have e : ((vd a b).asKey = (vd c d).asKey) ↔ (a = c ∧ b = d) := ⟨fun h => by
    have := law23.inj (keyOf23 h0 h1) (by rw [h]; exact keyOf23 h2 h3)
    simpa using this, fun h => by rw [h.1, h.2]⟩
  by_cases h : a = c ∧ b = d
  · rw [decide_eq_true h]; exact hi.2 (e.2 h)
  · rw [decide_eq_false h]
    cases r with
    | false => rfl
    | true => exact absurd (e.1 (hi.1 rfl)) h
set_option maxRecDepth 100000 in
theorem eql23 (w : World) {a b c d : Int} (h0 : (Lit.int .i64 a).wf = true) (h1 : (Lit.int .i64 b).wf = true) (h2 : (Lit.int .i64 c).wf = true) (h3 : (Lit.int .i64 d).wf = true) : (binOp .eql 23 (.agg #[.int .i64 a, .int .i64 b]) (.agg #[.int .i64 c, .int .i64 d])).run Tryd.prog w = .ok (.bool (decide (a = c ∧ b = d))) w := by
  simp [binOp, Sem.run_bind, equal23 w h0 h1 h2 h3]
set_option maxRecDepth 100000 in
theorem eguard23 (w : World) (x y : Operand) (a b : Array Value) : (eqGuard .eql 23 x y (.agg a) (.agg b)).run Tryd.prog w = .ok () w := by
  have : Tryd.prog.eqGuardType Tryd.prog.depth 23 = false := by kernel_rfl
  simp [eqGuard, program, this, Sem.run_bind, Sem.run, Result.andThen]
end Go.Proofs.YtkogfgbgmifcnaaDoor
