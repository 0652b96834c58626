/-
  What copying makes of a trace, step by step: pure, and in memory; no condition.
-/
import Derived.Test.YtnhjplfdfbbihaaCaD
namespace Go.Proofs.Ytnhjplfdfbbihaa
open Go.RowKit
set_option linter.unusedVariables false
set_option linter.unusedSimpArgs false

theorem set_cells {W : World} {k : Nat} {cs : Array Value} {t : TypeId} (j : Nat) (v : Value) (h : W.heap[k]? = some (.cells cs t (0, 0))) : (W.setCell ⟨k, j, none⟩ v).heap[k]? = some (.cells (cs.setIfInBounds j v) t (0, 0)) := by
  rw [heap_setCell_same _ _ _ _ _ _ h]
theorem set_oth {W : World} {k j i : Nat} {v : Value} {o : Obj} (hk : k ≠ j) (h : W.heap[k]? = some o) : (W.setCell ⟨j, i, none⟩ v).heap[k]? = some o := (Below.heap_setCell _ _ _ _ (by simpa using hk)).trans h
theorem Fr.setRow {S : List Nat} {a b : World} (h : Fr S a b) {g : Nat} (hp : g ∈ S ∨ a.heap.size ≤ g) (cs : Array Value) : Fr S a (b.setRow g cs) :=
  ⟨h.os, h.tape, h.output, by simpa using h.size, fun k hk hS => by
    rw [setRow_other _ _ _ _ (by rintro rfl; rcases hp with hp | hp; exact hS hp; omega)]
    exact h.block k hk hS⟩
theorem own_set {w : World} {B n size : Nat} {e : TypeId} {g c : Nat} {xs : List Value} (h : w.ownsRow B e size (.slice (some ⟨g, 0, none⟩) n c) n xs) (j : Nat) (u : Value) (hj : j < n * size) : (w.setCell ⟨g, j, none⟩ u).ownsRow B e size (.slice (some ⟨g, 0, none⟩) n c) n (xs.set j u) := by
  obtain ⟨h1, h2⟩ := h
  refine ⟨by simpa using h1, ?_⟩
  rcases h2 with ⟨e1, _⟩ | ⟨g', cap, cur, e1, hb, hg, hn, hm, hs, ht⟩
  · cases e1
  · cases e1
    refine .inr ⟨g, c, cur.setIfInBounds j u, rfl, hb, set_cells j u hg, hn, hm, by simpa using hs, ?_⟩
    rw [← ht, Array.toList_setIfInBounds, List.take_set]
theorem info35 : (Try.prog.info? 35).map (·.size) = some 17 := by kernel_rfl
theorem wpList_ld35 {ops : Array Oper} {rest : List Oper} {o : Oper} {a : Act} {w : World} {Q : Exit → Act → World → Prop} (hgd : o.guard = none) (x : Operand) (ho : o.op = .load 35 x)
    (g : Nat) (hx : a.eval x = .pointer (some ⟨g, 0, none⟩)) (A : Array Value) (hA : A.size = 17) (hg : w.heap[g]? = some (.cells A 35 (0, 0)))
    (h : wpList Try.prog ops Q rest (a.put o.dst (.agg A)) w) : wpList Try.prog ops Q (o :: rest) a w :=
  wpList_load_row hgd 35 x ho g hx 35 A (0, 0) _ hg Try.underlying35 rfl (by rw [hA]; exact info35) h
theorem wpList_st35 {ops : Array Oper} {rest : List Oper} {o : Oper} {a : Act} {w : World} {Q : Exit → Act → World → Prop} (hgd : o.guard = none) (x y : Operand) (ho : o.op = .store 35 x y)
    (g : Nat) (A : Array Value) (hx : a.eval x = .pointer (some ⟨g, 0, none⟩)) (hy : a.eval y = .agg A) (old : Array Value) (hg : w.heap[g]? = some (.cells old 35 (0, 0)))
    (hA : A.size = 17) (hold : old.size = 17) (h1 : A.all (·.oneCell') = true)
    (h : wpList Try.prog ops Q rest (a.put o.dst undef) (w.setRow g A)) : wpList Try.prog ops Q (o :: rest) a w :=
  wpList_store_row hgd 35 x y ho g A hx hy 35 old hg (by rw [hA]; exact info35) (by rw [hA]; exact hold) h1 h
theorem Tr.arr_one (t : Tr) : t.arr.all (·.oneCell') = true := by
  rw [Array.all_eq_true_iff_forall_mem]
  intro u hu
  exact t.cl_one u (by simpa [Tr.arr] using hu)
/-- The cells of a trace from its lists on. -/
theorem Tr.set_ins (t : Tr) (a : Option Addr) (c : Nat) : t.arr.setIfInBounds 12 (.slice a t.ins.length c) = ({ t with ia := a, ic := c } : Tr).arr := by
  obtain ⟨⟨x0, x1, x2, x3, x4, x5, x6, x7, x8, x9⟩, _, _, _, _, _, _, _, _, _, _, _, _, _, _, _, _, _⟩ := t; rfl
theorem Tr.set_ops (t : Tr) (a : Option Addr) (c : Nat) : t.arr.setIfInBounds 13 (.slice a t.ops.length c) = ({ t with oa := a, oc := c } : Tr).arr := by
  obtain ⟨⟨x0, x1, x2, x3, x4, x5, x6, x7, x8, x9⟩, _, _, _, _, _, _, _, _, _, _, _, _, _, _, _, _, _⟩ := t; rfl
theorem Tr.set_links (t : Tr) (a : Option Addr) (c : Nat) : t.arr.setIfInBounds 14 (.slice a t.links.length c) = ({ t with la := a, lc := c } : Tr).arr := by
  obtain ⟨⟨x0, x1, x2, x3, x4, x5, x6, x7, x8, x9⟩, _, _, _, _, _, _, _, _, _, _, _, _, _, _, _, _, _⟩ := t; rfl
theorem Tr.set_virts (t : Tr) (a : Option Addr) (c : Nat) : t.arr.setIfInBounds 15 (.slice a t.virts.length c) = ({ t with va := a, vc := c } : Tr).arr := by
  obtain ⟨⟨x0, x1, x2, x3, x4, x5, x6, x7, x8, x9⟩, _, _, _, _, _, _, _, _, _, _, _, _, _, _, _, _, _⟩ := t; rfl
theorem Tr.set_back (t : Tr) (a : Option Addr) (c : Nat) : t.arr.setIfInBounds 16 (.slice a t.back.length c) = ({ t with ba := a, bc := c } : Tr).arr := by
  obtain ⟨⟨x0, x1, x2, x3, x4, x5, x6, x7, x8, x9⟩, _, _, _, _, _, _, _, _, _, _, _, _, _, _, _, _, _⟩ := t; rfl
theorem Tr.at_ins (t : Tr) : t.arr[12]? = some (.slice t.ia t.ins.length t.ic) := by
  obtain ⟨⟨x0, x1, x2, x3, x4, x5, x6, x7, x8, x9⟩, _, _, _, _, _, _, _, _, _, _, _, _, _, _, _, _, _⟩ := t; rfl
theorem Tr.at_ops (t : Tr) : t.arr[13]? = some (.slice t.oa t.ops.length t.oc) := by
  obtain ⟨⟨x0, x1, x2, x3, x4, x5, x6, x7, x8, x9⟩, _, _, _, _, _, _, _, _, _, _, _, _, _, _, _, _, _⟩ := t; rfl
theorem Tr.at_links (t : Tr) : t.arr[14]? = some (.slice t.la t.links.length t.lc) := by
  obtain ⟨⟨x0, x1, x2, x3, x4, x5, x6, x7, x8, x9⟩, _, _, _, _, _, _, _, _, _, _, _, _, _, _, _, _, _⟩ := t; rfl
theorem Tr.at_virts (t : Tr) : t.arr[15]? = some (.slice t.va t.virts.length t.vc) := by
  obtain ⟨⟨x0, x1, x2, x3, x4, x5, x6, x7, x8, x9⟩, _, _, _, _, _, _, _, _, _, _, _, _, _, _, _, _, _⟩ := t; rfl
theorem Tr.at_back (t : Tr) : t.arr[16]? = some (.slice t.ba t.back.length t.bc) := by
  obtain ⟨⟨x0, x1, x2, x3, x4, x5, x6, x7, x8, x9⟩, _, _, _, _, _, _, _, _, _, _, _, _, _, _, _, _, _⟩ := t; rfl
theorem Tr.at_fn (t : Tr) : t.arr[10]? = some (.int .i64 t.fn) := by
  obtain ⟨⟨x0, x1, x2, x3, x4, x5, x6, x7, x8, x9⟩, _, _, _, _, _, _, _, _, _, _, _, _, _, _, _, _, _⟩ := t; rfl
theorem Tr.at_pc (t : Tr) : t.arr[11]? = some (.int .i64 t.pc) := by
  obtain ⟨⟨x0, x1, x2, x3, x4, x5, x6, x7, x8, x9⟩, _, _, _, _, _, _, _, _, _, _, _, _, _, _, _, _, _⟩ := t; rfl
theorem flat_set {α : Type} {f : α → List Value} {m : Nat} : ∀ {L : List α} (_ : ∀ x ∈ L, (f x).length = m) {i : Nat} {x y : α} {j : Nat} {v : Value}, L[i]? = some x → j < m → f y = (f x).set j v → (L.flatMap f).set (i * m + j) v = (L.set i y).flatMap f
  | [], _, i, x, y, j, v, h, hj, hy => by simp at h
  | p :: L, hm, 0, x, y, j, v, h, hj, hy => by
    simp at h
    subst h
    rw [List.flatMap_cons, Nat.zero_mul, Nat.zero_add, List.set_append_left _ _ (by rw [hm p (by simp)]; exact hj), List.set_cons_zero, List.flatMap_cons, hy]
  | p :: L, hm, i + 1, x, y, j, v, h, hj, hy => by
    have ih := flat_set (L := L) (fun x hx => hm x (by simp [hx])) (i := i) (x := x) (y := y) (j := j) (v := v) (by simpa using h) hj hy
    rw [List.flatMap_cons, List.set_append_right _ _ (by rw [hm p (by simp), Nat.succ_mul]; omega), hm p (by simp), show (i + 1) * m + j - m = i * m + j by rw [Nat.succ_mul]; omega, ih, List.set_cons_succ, List.flatMap_cons]
theorem El.set_cl {e : El} {np : Nat} (h : e.p.length = np) (a : Option Addr) (c : Nat) : ({ e with a := a, c := c } : El).cl = e.cl.set np (.slice a e.l.length c) := by
  unfold El.cl
  rw [List.set_append_right _ _ (by simp [h])]
  simp [h]
theorem El.at_cl {e : El} {np : Nat} (h : e.p.length = np) : e.cl[np]? = some (.slice e.a e.l.length e.c) := by
  unfold El.cl
  rw [List.getElem?_append_right (by simp [h])]
  simp [h]
theorem next_set {α : Type} {C D : List α} {p : Nat} (hC : C.length = p) (hp : p < D.length) (y : α) : (C ++ D.drop p).set p y = (C ++ [y]) ++ D.drop (p + 1) := by
  rw [List.set_append_right _ _ (by omega), hC, Nat.sub_self, List.drop_eq_getElem_cons hp]
  simp only [List.set_cons_zero, List.append_assoc, List.cons_append, List.nil_append]
theorem next_abs {C D : List El} {p : Nat} {x y : El} (h : C.map El.abs = (D.take p).map El.abs) (hx : D[p]? = some x) (hy : y.abs = x.abs) : (C ++ [y]).map El.abs = (D.take (p + 1)).map El.abs := by
  obtain ⟨h1, h2⟩ := List.getElem?_eq_some_iff.1 hx
  rw [List.take_succ_eq_append_getElem h1, List.map_append, List.map_append, h, h2]
  simp [hy]
/-- A list of elements whose inner lists are copied one by one: how far that has come. -/
structure Cp (w wr : World) (B : Nat) (e : TypeId) (np nq : Nat) (v : Value) (D : List El) (p : Nat) (C : List El) : Prop where
  len : C.length = p
  same : C.map El.abs = (D.take p).map El.abs
  row : wr.ownsRow w.heap.size e (np + 1 + nq) v D.length (flatE (C ++ D.drop p))
  ls : ∀ x ∈ C, ElOk wr B np nq x
  ds : ∀ x ∈ D, ElOk wr B np nq x
  fr : Fr [] w wr
/-- One more of them is copied. -/
theorem Cp.next {w wr w5 : World} {B : Nat} {e : TypeId} {np nq g c : Nat} {D : List El} {p : Nat} {C : List El} (I : Cp w wr B e np nq (.slice (some ⟨g, 0, none⟩) D.length c) D p C) (he : roT e = true) (he2 : e ≠ 109) (hg : B ≤ w.heap.size) {x : El} (hx : D[p]? = some x)
    (F5 : Fr [] wr w5) {a : Option Addr} {cc B5 : Nat} (ho : w5.ownsRow B5 109 4 (.slice a x.l.length cc) x.l.length (flatS x.l)) :
    Cp w (w5.setCell ⟨g, p * (np + 1 + nq) + np, none⟩ (.slice a x.l.length cc)) B e np nq (.slice (some ⟨g, 0, none⟩) D.length c) D (p + 1) (C ++ [{ x with a := a, c := cc }]) := by
  obtain ⟨hp, hxe⟩ := List.getElem?_eq_some_iff.1 hx
  have hxm := List.mem_of_getElem? hx
  have hxo := I.ds x hxm
  have hgr := own_fr I.row F5 (by simp)
  have hgb : ∃ cur, w5.heap[g]? = some (.cells cur e (0, 0)) := by
    rcases hgr.2 with ⟨e1, _⟩ | ⟨g', cap, cur, e1, _, hgg, _⟩
    · cases e1
    · cases e1; exact ⟨cur, hgg⟩
  obtain ⟨cur, hcur⟩ := hgb
  have hgB : w.heap.size ≤ g := (I.row.lt g rfl).1
  have hall : ∀ y ∈ C ++ D.drop p, y.cl.length = np + 1 + nq := by
    intro y hy
    rcases List.mem_append.1 hy with h | h
    · exact (El.cl_len (I.ls y h))
    · exact (El.cl_len (I.ds y (List.mem_of_mem_drop h)))
  have hx2 : (C ++ D.drop p)[p]? = some x := by rw [List.getElem?_append_right (by rw [I.len]; omega), I.len]; simpa using hx
  have hset := flat_set (f := El.cl) hall hx2 (j := np) (by omega) (El.set_cl hxo.hp a cc)
  rw [next_set I.len hp] at hset
  have hlt : p * (np + 1 + nq) + np < D.length * (np + 1 + nq) := by
    have := Nat.mul_le_mul_right (np + 1 + nq) (show p + 1 ≤ D.length from hp)
    rw [Nat.succ_mul] at this
    omega
  have fr6 : Fr [g] w5 (w5.setCell ⟨g, p * (np + 1 + nq) + np, none⟩ (.slice a x.l.length cc)) := (Fr.refl _ _).setCell (.inl (by simp)) _
  have keep : ∀ {y : El}, ElOk w5 B np nq y → ElOk (w5.setCell ⟨g, p * (np + 1 + nq) + np, none⟩ (.slice a x.l.length cc)) B np nq y := by
    intro y hy
    refine ⟨hy.hp, hy.hq, hy.sl.fr1 fr6 (fun b hb hm => ?_)⟩
    simp at hm
    subst hm
    rcases hb with hb | ⟨c', hb⟩
    · omega
    · rw [hcur] at hb
      cases hb
      exact he2 rfl
  have fr5 : ∀ {y : El}, ElOk wr B np nq y → ElOk w5 B np nq y := fun h => h.fr F5 (Away.nil _ _)
  refine ⟨by simp [I.len], next_abs I.same hx rfl, ?_, ?_, fun y hy => keep (fr5 (I.ds y hy)), ?_⟩
  · have := own_set hgr (p * (np + 1 + nq) + np) (.slice a x.l.length cc) hlt
    unfold flatE at this
    rw [hset] at this
    exact this
  · intro y hy
    rcases List.mem_append.1 hy with hy | hy
    · exact keep (fr5 (I.ls y hy))
    · simp at hy
      subst hy
      exact keep ⟨hxo.hp, hxo.hq, SL.own ho rfl hxo.sl.fit⟩
  · exact (((I.fr.trans F5).sub (T := [g]) (by simp)).trans fr6).sub (fun k hk => .inr (by simp at hk; omega))
theorem Cp.start {w wr : World} {B : Nat} {e : TypeId} {np nq : Nat} {v : Value} {D : List El} (h : wr.ownsRow w.heap.size e (np + 1 + nq) v D.length (flatE D)) (ds : ∀ x ∈ D, ElOk wr B np nq x) (f : Fr [] w wr) : Cp w wr B e np nq v D 0 [] :=
  ⟨rfl, by simp, by simpa using h, by simp, ds, f⟩
theorem SL.oth {w : World} {B : Nat} {e e' : TypeId} {a : Option Addr} {n c m y : Nat} {xs : List Value} (h : SL w B e a n c m y xs) {g : Nat} {cur : Array Value} (hg : w.heap[g]? = some (.cells cur e' (0, 0))) (he : e ≠ e') (hB : B ≤ g) (j : Nat) (v : Value) : SL (w.setCell ⟨g, j, none⟩ v) B e a n c m y xs :=
  h.fr1 ((Fr.refl _ _).setCell (S := [g]) (.inl (by simp)) v) (fun b hb hm => by
    simp at hm
    subst hm
    rcases hb with hb | ⟨c', hb⟩
    · omega
    · rw [hg] at hb
      cases hb
      exact he rfl)
theorem ElOk.oth {w : World} {B np nq : Nat} {x : El} {e' : TypeId} (h : ElOk w B np nq x) {g : Nat} {cur : Array Value} (hg : w.heap[g]? = some (.cells cur e' (0, 0))) (he : 109 ≠ e') (hB : B ≤ g) (j : Nat) (v : Value) : ElOk (w.setCell ⟨g, j, none⟩ v) B np nq x := ⟨h.hp, h.hq, h.sl.oth hg he hB j v⟩
theorem own_block {w : World} {B n size : Nat} {e : TypeId} {g c : Nat} {xs : List Value} (h : w.ownsRow B e size (.slice (some ⟨g, 0, none⟩) n c) n xs) : B ≤ g ∧ ∃ cur, w.heap[g]? = some (.cells cur e (0, 0)) := by
  refine ⟨(h.lt g rfl).1, ?_⟩
  rcases h.2 with ⟨e1, _⟩ | ⟨g', cap, cur, e1, _, hgg, _⟩
  · cases e1
  · cases e1; exact ⟨cur, hgg⟩
theorem results35 {fn : Func} {p : Tmp} (h : fn.results = #[.cell p 35]) {tmps : Array Value} {w : World} {g : Nat} {A : Array Value} (hA : A.size = 17) (hp : tmps.getD p undef = .pointer (some ⟨g, 0, none⟩)) (hg : w.heap[g]? = some (.cells A 35 (0, 0))) : (results fn tmps).run Try.prog w = .ok (.agg A) w :=
  results_cell_row h tmps w g 35 A (0, 0) _ hp hg Try.underlying35 rfl (by rw [hA]; exact info35)
theorem res31 : Try.f31.results = #[.cell 2 35] := by kernel_rfl
end Go.Proofs.Ytnhjplfdfbbihaa
