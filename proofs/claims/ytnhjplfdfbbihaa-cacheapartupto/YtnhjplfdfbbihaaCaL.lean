/-
  Values compared, and looked up: sources, members, places of operations; condition: they are numbers of 64 bits.
-/
import Derived.Test.YtnhjplfdfbbihaaCaC
namespace Go.Proofs.Ytnhjplfdfbbihaa
open Go.RowKit Go.Shelf Go.Maps Go.ChangeShapes
open Go.Deep (trod_struct3_mk)
set_option linter.unusedVariables false
set_option linter.unusedSimpArgs false
theorem cells109 : Try.prog.cellsOf 109 = 4 := by kernel_rfl
theorem cells94 : Try.prog.cellsOf 94 = 2 := by kernel_rfl
theorem cells83 : Try.prog.cellsOf 83 = 11 := by kernel_rfl
def sd (s : Sr) : DataW Unit := .agg [.lit (.int .i64 s.k), .agg [.lit (.int .i64 s.vk), .lit (.int .i64 s.vn)], .lit (.int .i64 s.n)]
/-- A place: a trace's number, an operation. -/
def pd (i p : Int) : DataW Unit := .agg [.lit (.int .i64 i), .lit (.int .i64 p)]
def pc (i p : Int) : Array Value := #[.int .i64 i, .int .i64 p]
/-- A member: a trace's number and its key. -/
def md (i : Int) (k : Ky) : DataW Unit := .agg [.lit (.int .i64 i), kd k]
def mcl (i : Int) (k : Ky) : List Value := .int .i64 i :: (kc k).toList
def mc (i : Int) (k : Ky) : Array Value := (mcl i k).toArray
theorem mcl_len (i : Int) (k : Ky) : (mcl i k).length = 11 := by simp [mcl, kc_size]
theorem mc_size (i : Int) (k : Ky) : (mc i k).size = 11 := by simp [mc, mcl_len]
theorem mc_inj {i j : Int} {k l : Ky} (h : mc i k = mc j l) : i = j ∧ k = l := by
  have h2 := congrArg Array.toList h
  simp [mc, mcl] at h2
  exact ⟨h2.1, kc_inj h2.2⟩

theorem row109 : (109 : TypeId) < Try.prog.types.size := of_decide_eq_true (by kernel_rfl)
set_option maxRecDepth 100000 in
theorem wide109 : (match Try.prog.underlying 109 with | some (.array _ _) | some (.struct _) => true | _ => false) = true := by rw [Try.underlying109]
set_option maxRecDepth 100000 in
theorem law109 : Keyed Try.prog 109 := Keyed.of_law (deep_law_laid laidOut (m := 6) (by omega) row109 (by kernel_rfl) wide109)
theorem deep109 : Try.prog.keyTypeAt (Try.prog.types.size + 1) 109 = true := by kernel_rfl

theorem row94 : (94 : TypeId) < Try.prog.types.size := of_decide_eq_true (by kernel_rfl)
set_option maxRecDepth 100000 in
theorem wide94 : (match Try.prog.underlying 94 with | some (.array _ _) | some (.struct _) => true | _ => false) = true := by rw [Try.underlying94]
set_option maxRecDepth 100000 in
theorem law94 : Keyed Try.prog 94 := Keyed.of_law (deep_law_laid laidOut (m := 6) (by omega) row94 (by kernel_rfl) wide94)
theorem deep94 : Try.prog.keyTypeAt (Try.prog.types.size + 1) 94 = true := by kernel_rfl

theorem row83 : (83 : TypeId) < Try.prog.types.size := of_decide_eq_true (by kernel_rfl)
set_option maxRecDepth 100000 in
theorem wide83 : (match Try.prog.underlying 83 with | some (.array _ _) | some (.struct _) => true | _ => false) = true := by rw [Try.underlying83]
set_option maxRecDepth 100000 in
theorem law83 : Keyed Try.prog 83 := Keyed.of_law (deep_law_laid laidOut (m := 6) (by omega) row83 (by kernel_rfl) wide83)
theorem deep83 : Try.prog.keyTypeAt (Try.prog.types.size + 1) 83 = true := by kernel_rfl

set_option maxRecDepth 100000 in
theorem keyOf109 {s : Sr} (h : s.w) : keyOf Try.prog 109 (.agg s.cl.toArray) = some (sd s).asKey := by
  refine (keyOf_asKey (H := Unit) (enc := fun _ => ()) (w := default) (base := 0) (sp := fun _ => true) (held := true) deep109 wide109 (by simp [Value.formed, Try.underlying109, cells109, Sr.cl, Sr.il]) (d := sd s) (ps := []) ?_).1
  refine ⟨4, ?_⟩
  obtain ⟨a, b, c, d⟩ := s
  simp only [Sr.w, Sr.il, List.mem_cons, List.not_mem_nil, or_false, forall_eq_or_imp, forall_eq] at h
  obtain ⟨h0, h1, h2, h3⟩ := h
  have := trod_struct3_mk (enc := fun _ => ()) (w := (default : World)) (base := 0) (spare := fun _ => true) (held := true) (n := 3) (cs := (⟨a, b, c, d⟩ : Sr).cl) Try.underlying109 (by rw [cells109]; rfl) (by rw [cells3]; exact tr3 _ 2 h0) (by rw [cells26]; exact tr26 _ 1 h1 h2) (by rw [cells3]; exact tr3 _ 2 h3)
  simpa [sd, Value.cells] using this
set_option maxRecDepth 100000 in
theorem keyOf94 {i p : Int} (h0 : (Lit.int .i64 i).wf = true) (h1 : (Lit.int .i64 p).wf = true) : keyOf Try.prog 94 (.agg (pc i p)) = some (pd i p).asKey := by
  refine (keyOf_asKey (H := Unit) (enc := fun _ => ()) (w := default) (base := 0) (sp := fun _ => true) (held := true) deep94 wide94 (by simp [Value.formed, Try.underlying94, cells94, pc]) (d := pd i p) (ps := []) ?_).1
  refine ⟨4, ?_⟩
  have := trod_struct2_mk (enc := fun _ => ()) (w := (default : World)) (base := 0) (spare := fun _ => true) (held := true) (n := 3) (cs := (pc i p).toList) Try.underlying94 (by rw [cells94]; rfl) (by rw [cells3]; exact tr3 _ 2 h0) (by rw [cells3]; exact tr3 _ 2 h1)
  simpa [pd, Value.cells] using this
set_option maxRecDepth 100000 in
theorem keyOf83 {i : Int} {k : Ky} (hi : (Lit.int .i64 i).wf = true) (hk : kw k) : keyOf Try.prog 83 (.agg (mc i k)) = some (md i k).asKey := by
  refine (keyOf_asKey (H := Unit) (enc := fun _ => ()) (w := default) (base := 0) (sp := fun _ => true) (held := true) deep83 wide83 (by simp [Value.formed, Try.underlying83, cells83, mc_size]) (d := md i k) (ps := []) ?_).1
  refine ⟨5, ?_⟩
  obtain ⟨a, b, c, d, e, f, g, h, i', j⟩ := k
  simp only [kw, kl0, List.mem_cons, List.not_mem_nil, or_false, forall_eq_or_imp, forall_eq] at hk
  obtain ⟨h0, h1, h2, h3, h4, h5, h6, h7, h8, h9⟩ := hk
  have hkey := trod_struct3_mk (enc := fun _ => ()) (w := (default : World)) (base := 0) (spare := fun _ => true) (held := true) (n := 3) (cs := (kc (a, b, c, d, e, f, g, h, i', j)).toList) Try.underlying29 (by rw [cells29]; rfl) (by rw [cells3]; exact tr3 _ 2 h0) (by rw [cells3]; exact tr3 _ 2 h1) (by rw [cells27]; exact tr27 _ 0 h2 h3 h4 h5 h6 h7 h8 h9)
  have := trod_struct2_mk (enc := fun _ => ()) (w := (default : World)) (base := 0) (spare := fun _ => true) (held := true) (n := 4) (cs := mcl i (a, b, c, d, e, f, g, h, i', j)) Try.underlying83 (by rw [cells83]; rfl) (by rw [cells3]; exact tr3 _ 3 hi) (by rw [cells29]; exact hkey)
  simpa [md, kd, mc, Value.cells] using this
theorem Sr.cl_inj {s t : Sr} (h : Value.agg s.cl.toArray = Value.agg t.cl.toArray) : s = t := by
  obtain ⟨a, b, c, d⟩ := s
  obtain ⟨a', b', c', d'⟩ := t
  simpa [Sr.cl, Sr.il] using h
theorem mcv_inj {i j : Int} {k l : Ky} (h : Value.agg (mc i k) = Value.agg (mc j l)) : i = j ∧ k = l := mc_inj (by simpa using h)

set_option maxRecDepth 100000 in
theorem equal109 (w : World) {s t : Sr} (hs : s.w) (ht : t.w) : (Op.equal 109 (.agg (s.cl.toArray)) (.agg (t.cl.toArray))).run Try.prog w = .ok (decide (s = t)) w := by
  obtain ⟨r, hr, hi⟩ := run_equal_deep w (m := 6) (by omega) (by kernel_rfl) wide109 (keyOf109 hs) (keyOf109 ht)
  have hr' : (Op.equal 109 (.agg (s.cl.toArray)) (.agg (t.cl.toArray))).run Try.prog w = .ok r w := hr
  rw [hr']
  congr 1
  have e : ((sd s).asKey = (sd t).asKey) ↔ (s = t) := ⟨fun h => Sr.cl_inj (law109.inj (keyOf109 hs) (by rw [h]; exact keyOf109 ht)), fun h => by rw [h]⟩
  by_cases h : (s = t)
  · rw [decide_eq_true h]; exact hi.2 (e.2 h)
  · rw [decide_eq_false h]
    cases r with
    | false => rfl
    | true => exact absurd (e.1 (hi.1 rfl)) h
set_option maxRecDepth 100000 in
theorem eql109 (w : World) {s t : Sr} (hs : s.w) (ht : t.w) : (binOp .eql 109 (.agg (s.cl.toArray)) (.agg (t.cl.toArray))).run Try.prog w = .ok (.bool (decide (s = t))) w := by
  simp [binOp, Sem.run_bind, equal109 w hs ht]
set_option maxRecDepth 100000 in
theorem neq109 (w : World) {s t : Sr} (hs : s.w) (ht : t.w) : (binOp .neq 109 (.agg (s.cl.toArray)) (.agg (t.cl.toArray))).run Try.prog w = .ok (.bool (!decide (s = t))) w := by
  simp [binOp, Sem.run_bind, equal109 w hs ht]
set_option maxRecDepth 100000 in
theorem eguard109 (w : World) (op : BinOp) (x y : Operand) (a b : Array Value) (hop : op = .eql ∨ op = .neq) : (eqGuard op 109 x y (.agg a) (.agg b)).run Try.prog w = .ok () w := by
  have : Try.prog.eqGuardType Try.prog.depth 109 = false := by kernel_rfl
  rcases hop with rfl | rfl <;> simp [eqGuard, program, this, Sem.run_bind, Sem.run, Result.andThen]

set_option maxRecDepth 100000 in
theorem equal83 (w : World) {i j : Int} {k l : Ky} (hi1 : (Lit.int .i64 i).wf = true) (hk : kw k) (hj1 : (Lit.int .i64 j).wf = true) (hl : kw l) : (Op.equal 83 (.agg (mc i k)) (.agg (mc j l))).run Try.prog w = .ok (decide (i = j ∧ k = l)) w := by
  obtain ⟨r, hr, hi⟩ := run_equal_deep w (m := 6) (by omega) (by kernel_rfl) wide83 (keyOf83 hi1 hk) (keyOf83 hj1 hl)
  have hr' : (Op.equal 83 (.agg (mc i k)) (.agg (mc j l))).run Try.prog w = .ok r w := hr
  rw [hr']
  congr 1
  have e : ((md i k).asKey = (md j l).asKey) ↔ (i = j ∧ k = l) := ⟨fun h => mcv_inj (law83.inj (keyOf83 hi1 hk) (by rw [h]; exact keyOf83 hj1 hl)), fun h => by rw [h.1, h.2]⟩
  by_cases h : (i = j ∧ k = l)
  · rw [decide_eq_true h]; exact hi.2 (e.2 h)
  · rw [decide_eq_false h]
    cases r with
    | false => rfl
    | true => exact absurd (e.1 (hi.1 rfl)) h
set_option maxRecDepth 100000 in
theorem eql83 (w : World) {i j : Int} {k l : Ky} (hi1 : (Lit.int .i64 i).wf = true) (hk : kw k) (hj1 : (Lit.int .i64 j).wf = true) (hl : kw l) : (binOp .eql 83 (.agg (mc i k)) (.agg (mc j l))).run Try.prog w = .ok (.bool (decide (i = j ∧ k = l))) w := by
  simp [binOp, Sem.run_bind, equal83 w hi1 hk hj1 hl]
set_option maxRecDepth 100000 in
theorem neq83 (w : World) {i j : Int} {k l : Ky} (hi1 : (Lit.int .i64 i).wf = true) (hk : kw k) (hj1 : (Lit.int .i64 j).wf = true) (hl : kw l) : (binOp .neq 83 (.agg (mc i k)) (.agg (mc j l))).run Try.prog w = .ok (.bool (!decide (i = j ∧ k = l))) w := by
  simp [binOp, Sem.run_bind, equal83 w hi1 hk hj1 hl]
set_option maxRecDepth 100000 in
theorem eguard83 (w : World) (op : BinOp) (x y : Operand) (a b : Array Value) (hop : op = .eql ∨ op = .neq) : (eqGuard op 83 x y (.agg a) (.agg b)).run Try.prog w = .ok () w := by
  have : Try.prog.eqGuardType Try.prog.depth 83 = false := by kernel_rfl
  rcases hop with rfl | rfl <;> simp [eqGuard, program, this, Sem.run_bind, Sem.run, Result.andThen]

set_option maxRecDepth 100000 in
theorem neq29 (w : World) {a b : Ky} (ha : kw a) (hb : kw b) : (binOp .neq 29 (.agg (kc a)) (.agg (kc b))).run Try.prog w = .ok (.bool (!decide (a = b))) w := by
  simp [binOp, Sem.run_bind, equal29 w ha hb]
theorem pdk_inj {i p j q : Int} (h0 : (Lit.int .i64 i).wf = true) (h1 : (Lit.int .i64 p).wf = true) (h2 : (Lit.int .i64 j).wf = true) (h3 : (Lit.int .i64 q).wf = true) (h : (pd i p).asKey = (pd j q).asKey) : i = j ∧ p = q := by
  have := law94.inj (keyOf94 h0 h1) (by rw [h]; exact keyOf94 h2 h3)
  simpa [pc] using this
end Go.Proofs.Ytnhjplfdfbbihaa
