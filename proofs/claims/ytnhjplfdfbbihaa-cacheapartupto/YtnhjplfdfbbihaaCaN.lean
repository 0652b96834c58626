/-
  Traces held against each other, where they are alike: what stands while they are; condition: they lie as told.
-/
import Derived.Test.YtnhjplfdfbbihaaCaM
namespace Go.Proofs.Ytnhjplfdfbbihaa
open Go.RowKit
set_option linter.unusedVariables false
set_option linter.unusedSimpArgs false

theorem hid {p : Prop} (h : p) : Hid p := h
theorem info29 : (Try.prog.info? 29).map (·.size) = some 10 := by kernel_rfl
theorem info55 : (Try.prog.info? 55).map (·.size) = some 5 := by kernel_rfl
theorem info77 : (Try.prog.info? 77).map (·.size) = some 5 := by kernel_rfl
theorem info79 : (Try.prog.info? 79).map (·.size) = some 2 := by kernel_rfl
theorem len1 {α : Type} {l : List α} (h : l.length = 1) : ∃ a, l = [a] := by
  match l, h with
  | [a], _ => exact ⟨a, rfl⟩
theorem len3 {α : Type} {l : List α} (h : l.length = 3) : ∃ a b c, l = [a, b, c] := by
  match l, h with
  | [a, b, c], _ => exact ⟨a, b, c, rfl⟩
theorem len4 {α : Type} {l : List α} (h : l.length = 4) : ∃ a b c d, l = [a, b, c, d] := by
  match l, h with
  | [a, b, c, d], _ => exact ⟨a, b, c, d, rfl⟩
theorem abs_at {L M : List El} (h : L.map El.abs = M.map El.abs) {i : Nat} {x : El} (hx : L[i]? = some x) : ∃ y, M[i]? = some y ∧ y.p = x.p ∧ y.q = x.q ∧ y.l = x.l := by
  have h1 : (M.map El.abs)[i]? = some x.abs := by rw [← h]; simp [hx]
  simp only [List.getElem?_map, Option.map_eq_some_iff] at h1
  obtain ⟨y, hy, e⟩ := h1
  injection e with e1 e2 e3
  exact ⟨y, hy, e1, e2, e3⟩
theorem abs_len {L M : List El} (h : L.map El.abs = M.map El.abs) : L.length = M.length := by simpa using congrArg List.length h
/-- Two traces in blocks of their own. -/
structure Tw (W : World) (B T1 T2 : Nat) (t u : Tr) : Prop where
  b1 : W.heap[T1]? = some (.cells t.arr 35 (0, 0))
  b2 : W.heap[T2]? = some (.cells u.arr 35 (0, 0))
  o1 : TrOk W B t
  o2 : TrOk W B u
theorem Tw.fr {W W' : World} {B T1 T2 : Nat} {t u : Tr} (h : Tw W B T1 T2 t u) (f : Fr [] W W') : Tw W' B T1 T2 t u :=
  ⟨(f.block _ (Array.getElem?_eq_some_iff.1 h.b1).1 (by simp)).trans h.b1, (f.block _ (Array.getElem?_eq_some_iff.1 h.b2).1 (by simp)).trans h.b2, h.o1.fr0 f, h.o2.fr0 f⟩
theorem wpList_neq29 {ops : Array Oper} {rest : List Oper} {o : Oper} {act : Act} {w : World} {Q : Exit → Act → World → Prop} (hg : o.guard = none) (x y : Operand) (hop : o.op = .binOp .neq 29 x y 29) {a b : Ky} (ha : kw a) (hb : kw b) (hx : act.eval x = .agg (kc a)) (hy : act.eval y = .agg (kc b)) (h : wpList Try.prog ops Q rest (act.put o.dst (.bool (!decide (a = b)))) w) : wpList Try.prog ops Q (o :: rest) act w := by
  refine wpList_plain hg fun K hK => ?_
  unfold Oper.wp execOp
  have hgd : (eqGuard .neq 29 x y (.agg (kc a)) (.agg (kc b))).run Try.prog w = .ok () w := by
    have : Try.prog.eqGuardType Try.prog.depth 29 = false := by kernel_rfl
    simp [eqGuard, program, this, Sem.run_bind, Sem.run, Result.andThen]
  simp only [hop, hx, hy, Sem.run_bind, hgd, neq29 w ha hb, Result.andThen_ok, Sem.run_pure]
  exact hK _ _ h
theorem range_block {w : World} {b : Nat} {A : Array Value} {t : TypeId} (h : w.heap[b]? = some (.cells A t (0, 0))) : w.rangeAt b 0 A.toList := fun j v hv => by
  rw [Nat.zero_add]
  exact at_cells h j (by simpa using hv)
theorem Tr.key_range {w : World} {T : Nat} {t : Tr} (h : w.heap[T]? = some (.cells t.arr 35 (0, 0))) : w.rangeAt T 0 (kc t.k).toList := fun j v hv => by
  rw [Nat.zero_add]
  refine at_cells h j ?_
  obtain ⟨⟨x0, x1, x2, x3, x4, x5, x6, x7, x8, x9⟩, _, _, _, _, _, _, _, _, _, _, _, _, _, _, _, _, _⟩ := t
  have hj := (List.getElem?_eq_some_iff.1 hv).1
  simp only [kc, kl0, List.map_cons, List.map_nil, List.length_cons, List.length_nil] at hj hv
  match j, hj, hv with
  | 0, _, hv => exact hv
  | 1, _, hv => exact hv
  | 2, _, hv => exact hv
  | 3, _, hv => exact hv
  | 4, _, hv => exact hv
  | 5, _, hv => exact hv
  | 6, _, hv => exact hv
  | 7, _, hv => exact hv
  | 8, _, hv => exact hv
  | 9, _, hv => exact hv
end Go.Proofs.Ytnhjplfdfbbihaa
