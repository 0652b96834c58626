/-
  Keys: ten numbers, as a value, as a key of a map, compared; condition: they are numbers of 64 bits.
-/
import Derived.Test.YtkogfgbgmifcnaaDoorCaA
import Derived.Maps.OwnSet
import Derived.Maps.RangeWalk
import Derived.DeepKeys4
import Derived.MapViews
import Derived.Deep.Strs
import Derived.Deep.MidRow
namespace Go.Proofs.YtkogfgbgmifcnaaDoor
open Go.RowKit Go.Shelf Go.Maps Go.ChangeShapes
open Go.Deep (trod_struct3_mk)
set_option linter.unusedVariables false
set_option linter.unusedSimpArgs false

abbrev Ky := Int × Int × Int × Int × Int × Int × Int × Int × Int × Int
def kl0 : Ky → List Int
  | (a, b, c, d, e, f, g, h, i, j) => [a, b, c, d, e, f, g, h, i, j]
theorem kl0_inj {k k' : Ky} (h : kl0 k = kl0 k') : k = k' := by
  obtain ⟨a, b, c, d, e, f, g, h, i, j⟩ := k
  obtain ⟨a', b', c', d', e', f', g', h', i', j'⟩ := k'
  simpa [kl0] using h
instance kyDec : DecidableEq Ky := fun a b => decidable_of_iff (kl0 a = kl0 b) ⟨kl0_inj, fun h => by rw [h]⟩
/-- A key's cells. -/
def kc (k : Ky) : Array Value := ((kl0 k).map (Value.int .i64)).toArray
def kv (k : Ky) : Value := .agg (kc k)
def kw (k : Ky) : Prop := ∀ x ∈ kl0 k, (Lit.int .i64 x).wf = true
theorem kc_size (k : Ky) : (kc k).size = 10 := by obtain ⟨a, b, c, d, e, f, g, h, i, j⟩ := k; rfl
theorem kc_one (k : Ky) : (kc k).all (·.oneCell') = true := by obtain ⟨a, b, c, d, e, f, g, h, i, j⟩ := k; simp [kc, kl0, Value.oneCell']
theorem kc_inj {k k' : Ky} (h : kc k = kc k') : k = k' := by
  obtain ⟨a, b, c, d, e, f, g, h, i, j⟩ := k
  obtain ⟨a', b', c', d', e', f', g', h', i', j'⟩ := k'
  simpa [kc, kl0] using h
theorem laidOut : laidOutB Tryd.prog = true := by kernel_rfl
theorem row26 : (26 : TypeId) < Tryd.prog.types.size := of_decide_eq_true (by kernel_rfl)
theorem cells26 : Tryd.prog.cellsOf 26 = 10 := by kernel_rfl
theorem cells23 : Tryd.prog.cellsOf 23 = 2 := by kernel_rfl
theorem cells24 : Tryd.prog.cellsOf 24 = 8 := by kernel_rfl
theorem cells3 : Tryd.prog.cellsOf 3 = 1 := by kernel_rfl
theorem cells2 : Tryd.prog.cellsOf 2 = 1 := by kernel_rfl
set_option maxRecDepth 100000 in
theorem wide26 : (match Tryd.prog.underlying 26 with | some (.array _ _) | some (.struct _) => true | _ => false) = true := by rw [Tryd.underlying26]
set_option maxRecDepth 100000 in
theorem law26 : Keyed Tryd.prog 26 := Keyed.of_law (deep_law_laid laidOut (m := 5) (by omega) row26 (by kernel_rfl) wide26)
theorem deep26 : Tryd.prog.keyTypeAt (Tryd.prog.types.size + 1) 26 = true := by kernel_rfl
set_option maxRecDepth 100000 in
theorem formed26 (k : Ky) : (kv k).formed Tryd.prog 26 = true := by simp [kv, Value.formed, Tryd.underlying26, cells26, kc_size]
def kd (k : Ky) : DataW Unit := match k with
  | (a, b, c, d, e, f, g, h, i, j) => .agg [.lit (.int .i64 a), .lit (.int .i64 b), .agg [.agg [.lit (.int .i64 c), .lit (.int .i64 d)], .agg [.lit (.int .i64 e), .lit (.int .i64 f)], .agg [.lit (.int .i64 g), .lit (.int .i64 h)], .agg [.lit (.int .i64 i), .lit (.int .i64 j)]]]
def kl (k : Ky) : Lit := (kd k).asKey
section
variable (W : World)
theorem tr3 (n : Nat) {x : Int} (h : (Lit.int .i64 x).wf = true) : DataW.trod (H := Unit) (fun _ => ()) Tryd.prog W 0 (fun _ => true) true (n + 1) 3 [.int .i64 x] = some (.lit (.int .i64 x), []) := by simp [DataW.trod, Tryd.underlying3, h]
theorem tr2 (n : Nat) {x : Int} (h : (Lit.int .i64 x).wf = true) : DataW.trod (H := Unit) (fun _ => ()) Tryd.prog W 0 (fun _ => true) true (n + 1) 2 [.int .i64 x] = some (.lit (.int .i64 x), []) := by simp [DataW.trod, Tryd.underlying2, h]
theorem tr23 (n : Nat) {x y : Int} (h : (Lit.int .i64 x).wf = true) (h' : (Lit.int .i64 y).wf = true) : DataW.trod (H := Unit) (fun _ => ()) Tryd.prog W 0 (fun _ => true) true (n + 2) 23 [.int .i64 x, .int .i64 y] = some (.agg [.lit (.int .i64 x), .lit (.int .i64 y)], []) := by
  have := trod_struct2_mk (enc := fun _ => ()) (w := W) (base := 0) (spare := fun _ => true) (held := true) (n := n + 1) (cs := [.int .i64 x, .int .i64 y]) Tryd.underlying23 (by rw [cells23]; rfl) (by simpa [cells3] using tr3 W n h) (by simpa [cells2] using tr2 W n h')
  simpa using this
set_option maxRecDepth 100000 in
theorem tr24 (n : Nat) {c d e f g h i j : Int} (h2 : (Lit.int .i64 c).wf = true) (h3 : (Lit.int .i64 d).wf = true) (h4 : (Lit.int .i64 e).wf = true) (h5 : (Lit.int .i64 f).wf = true) (h6 : (Lit.int .i64 g).wf = true) (h7 : (Lit.int .i64 h).wf = true) (h8 : (Lit.int .i64 i).wf = true) (h9 : (Lit.int .i64 j).wf = true) :
    DataW.trod (H := Unit) (fun _ => ()) Tryd.prog W 0 (fun _ => true) true (n + 3) 24 [.int .i64 c, .int .i64 d, .int .i64 e, .int .i64 f, .int .i64 g, .int .i64 h, .int .i64 i, .int .i64 j] =
      some (.agg [.agg [.lit (.int .i64 c), .lit (.int .i64 d)], .agg [.lit (.int .i64 e), .lit (.int .i64 f)], .agg [.lit (.int .i64 g), .lit (.int .i64 h)], .agg [.lit (.int .i64 i), .lit (.int .i64 j)]], []) := by
  rw [DataW.trod_step]
  unfold DataW.trodStep
  rw [Tryd.underlying24]
  simp only [cells24, cells23, List.length_cons, List.length_nil, if_true, show List.range 4 = [0, 1, 2, 3] from rfl, List.mapM_cons, List.mapM_nil, Nat.zero_mul, Nat.one_mul, List.drop_zero, List.drop_succ_cons, List.take_succ_cons, List.take_zero, Nat.reduceMul]
  rw [tr23 W n h2 h3, tr23 W n h4 h5, tr23 W n h6 h7, tr23 W n h8 h9]
  rfl
end
set_option maxRecDepth 100000 in
theorem keyOf26 (k : Ky) (hk : kw k) : keyOf Tryd.prog 26 (kv k) = some (kl k) := by
  refine (keyOf_asKey (H := Unit) (enc := fun _ => ()) (w := default) (base := 0) (sp := fun _ => true) (held := true) deep26 wide26 (formed26 k) (d := kd k) (ps := []) ?_).1
  refine ⟨4, ?_⟩
  obtain ⟨a, b, c, d, e, f, g, h, i, j⟩ := k
  simp only [kw, kl0, List.mem_cons, List.not_mem_nil, or_false, forall_eq_or_imp, forall_eq] at hk
  obtain ⟨h0, h1, h2, h3, h4, h5, h6, h7, h8, h9⟩ := hk
  have := trod_struct3_mk (enc := fun _ => ()) (w := (default : World)) (base := 0) (spare := fun _ => true) (held := true) (n := 3) (cs := (kc (a, b, c, d, e, f, g, h, i, j)).toList) Tryd.underlying26 (by rw [cells26]; rfl) (by rw [cells3]; exact tr3 _ 2 h0) (by rw [cells3]; exact tr3 _ 2 h1) (by rw [cells24]; exact tr24 _ 0 h2 h3 h4 h5 h6 h7 h8 h9)
  simpa [kd, kv, Value.cells] using this
set_option maxRecDepth 100000 in
theorem kv_inj {k k' : Ky} (h : kv k = kv k') : k = k' := kc_inj (by simpa [kv] using h)
set_option maxRecDepth 100000 in
theorem equal26 (w : World) {a b : Ky} (ha : kw a) (hb : kw b) : (Op.equal 26 (.agg (kc a)) (.agg (kc b))).run Tryd.prog w = .ok (decide (a = b)) w := by
  obtain ⟨r, hr, hi⟩ := run_equal_deep w (m := 5) (by omega) (by kernel_rfl) wide26 (keyOf26 a ha) (keyOf26 b hb)
  have hr' : (Op.equal 26 (.agg (kc a)) (.agg (kc b))).run Tryd.prog w = .ok r w := hr
  rw [hr']
  congr 1
  have e : (kl a = kl b) ↔ a = b := ⟨fun h => kv_inj (law26.inj (keyOf26 a ha) (by rw [h]; exact keyOf26 b hb)), fun h => by rw [h]⟩
  by_cases h : a = b
  · rw [decide_eq_true h]; exact hi.2 (e.2 h)
  · rw [decide_eq_false h]
    cases r with
    | false => rfl
    | true => exact absurd (e.1 (hi.1 rfl)) h
set_option maxRecDepth 100000 in
theorem eql26 (w : World) {a b : Ky} (ha : kw a) (hb : kw b) : (binOp .eql 26 (.agg (kc a)) (.agg (kc b))).run Tryd.prog w = .ok (.bool (decide (a = b))) w := by
  simp [binOp, Sem.run_bind, equal26 w ha hb]
theorem guard29 (w : World) (x y : Operand) (a b : Array Value) : (eqGuard .eql 26 x y (.agg a) (.agg b)).run Tryd.prog w = .ok () w := by
  have : Tryd.prog.eqGuardType Tryd.prog.depth 26 = false := by kernel_rfl
  simp [eqGuard, program, this, Sem.run_bind, Sem.run, Result.andThen]
set_option maxRecDepth 100000 in
theorem kl_inj {k k' : Ky} (hk : kw k) (hk' : kw k') (h : kl k = kl k') : k = k' := kv_inj (law26.inj (keyOf26 k hk) (by rw [h]; exact keyOf26 k' hk'))
end Go.Proofs.YtkogfgbgmifcnaaDoor
