/-
  Small things on blocks, rows, traces; no condition.
-/
import Derived.Test.YtkogfgbgmifcnaaDoorCaC
import Derived.Deep.Cut
import Derived.Deep.MidRow
import Derived.Deep.RegionHeldLaw
namespace Go.Proofs.YtkogfgbgmifcnaaDoor
open Go.RowKit Go.Shelf Go.Maps Go.ChangeShapes
set_option linter.unusedVariables false
set_option linter.unusedSimpArgs false
theorem hid {p : Prop} (h : p) : Hid p := h
theorem set_cells {W : World} {k : Nat} {cs : Array Value} {t : TypeId} (j : Nat) (v : Value) (h : W.heap[k]? = some (.cells cs t (0, 0))) : (W.setCell ⟨k, j, none⟩ v).heap[k]? = some (.cells (cs.setIfInBounds j v) t (0, 0)) := by
  rw [heap_setCell_same _ _ _ _ _ _ h]
theorem set_oth {W : World} {k j i : Nat} {v : Value} {o : Obj} (hk : k ≠ j) (h : W.heap[k]? = some o) : (W.setCell ⟨j, i, none⟩ v).heap[k]? = some o := (Below.heap_setCell _ _ _ _ (by simpa using hk)).trans h
theorem Fr.setRow {S : List Nat} {a b : World} (h : Fr S a b) {g : Nat} (hp : g ∈ S ∨ a.heap.size ≤ g) (cs : Array Value) : Fr S a (b.setRow g cs) :=
  ⟨h.os, h.tape, h.output, by simpa using h.size, fun k hk hS => by
    rw [setRow_other _ _ _ _ (by rintro rfl; rcases hp with hp | hp; exact hS hp; omega)]
    exact h.block k hk hS⟩
theorem own_set {w : World} {B n size : Nat} {e : TypeId} {g c : Nat} {xs : List Value} (h : w.ownsRow B e size (.slice (some ⟨g, 0, none⟩) n c) n xs) (j : Nat) (u : Value) (hj : j < n * size) : (w.setCell ⟨g, j, none⟩ u).ownsRow B e size (.slice (some ⟨g, 0, none⟩) n c) n (xs.set j u) := by
  obtain ⟨h1, h2⟩ := h
  refine ⟨by simpa using h1, ?_⟩
  rcases h2 with ⟨e1, _⟩ | ⟨g', cap, cur, e1, hb, hg, hn, hm, hs, ht⟩
  · cases e1
  · cases e1
    refine .inr ⟨g, c, cur.setIfInBounds j u, rfl, hb, set_cells j u hg, hn, hm, by simpa using hs, ?_⟩
    rw [← ht, Array.toList_setIfInBounds, List.take_set]
theorem info33 : (Tryd.prog.info? 33).map (·.size) = some 17 := by kernel_rfl
theorem wpList_ld33 {ops : Array Oper} {rest : List Oper} {o : Oper} {a : Act} {w : World} {Q : Exit → Act → World → Prop} (hgd : o.guard = none) (x : Operand) (ho : o.op = .load 33 x)
    (g : Nat) (hx : a.eval x = .pointer (some ⟨g, 0, none⟩)) (A : Array Value) (hA : A.size = 17) (hg : w.heap[g]? = some (.cells A 33 (0, 0)))
    (h : wpList Tryd.prog ops Q rest (a.put o.dst (.agg A)) w) : wpList Tryd.prog ops Q (o :: rest) a w :=
  wpList_load_row hgd 33 x ho g hx 33 A (0, 0) _ hg Tryd.underlying33 rfl (by rw [hA]; exact info33) h
theorem wpList_st35 {ops : Array Oper} {rest : List Oper} {o : Oper} {a : Act} {w : World} {Q : Exit → Act → World → Prop} (hgd : o.guard = none) (x y : Operand) (ho : o.op = .store 33 x y)
    (g : Nat) (A : Array Value) (hx : a.eval x = .pointer (some ⟨g, 0, none⟩)) (hy : a.eval y = .agg A) (old : Array Value) (hg : w.heap[g]? = some (.cells old 33 (0, 0)))
    (hA : A.size = 17) (hold : old.size = 17) (h1 : A.all (·.oneCell') = true)
    (h : wpList Tryd.prog ops Q rest (a.put o.dst undef) (w.setRow g A)) : wpList Tryd.prog ops Q (o :: rest) a w :=
  wpList_store_row hgd 33 x y ho g A hx hy 33 old hg (by rw [hA]; exact info33) (by rw [hA]; exact hold) h1 h
theorem Tr.arr_one (t : Tr) : t.arr.all (·.oneCell') = true := by
  rw [Array.all_eq_true_iff_forall_mem]
  intro u hu
  exact t.cl_one u (by simpa [Tr.arr] using hu)
/-- The cells of a trace from its lists on. -/
theorem Tr.set_ins (t : Tr) (a : Option Addr) (c : Nat) : t.arr.setIfInBounds 12 (.slice a t.ins.length c) = ({ t with ia := a, ic := c } : Tr).arr := by
  obtain ⟨⟨x0, x1, x2, x3, x4, x5, x6, x7, x8, x9⟩, _, _, _, _, _, _, _, _, _, _, _, _, _, _, _, _, _⟩ := t; rfl
theorem Tr.set_ops (t : Tr) (a : Option Addr) (c : Nat) : t.arr.setIfInBounds 13 (.slice a t.ops.length c) = ({ t with oa := a, oc := c } : Tr).arr := by
  obtain ⟨⟨x0, x1, x2, x3, x4, x5, x6, x7, x8, x9⟩, _, _, _, _, _, _, _, _, _, _, _, _, _, _, _, _, _⟩ := t; rfl
theorem Tr.set_links (t : Tr) (a : Option Addr) (c : Nat) : t.arr.setIfInBounds 14 (.slice a t.links.length c) = ({ t with la := a, lc := c } : Tr).arr := by
  obtain ⟨⟨x0, x1, x2, x3, x4, x5, x6, x7, x8, x9⟩, _, _, _, _, _, _, _, _, _, _, _, _, _, _, _, _, _⟩ := t; rfl
theorem Tr.set_virts (t : Tr) (a : Option Addr) (c : Nat) : t.arr.setIfInBounds 15 (.slice a t.virts.length c) = ({ t with va := a, vc := c } : Tr).arr := by
  obtain ⟨⟨x0, x1, x2, x3, x4, x5, x6, x7, x8, x9⟩, _, _, _, _, _, _, _, _, _, _, _, _, _, _, _, _, _⟩ := t; rfl
theorem Tr.set_back (t : Tr) (a : Option Addr) (c : Nat) : t.arr.setIfInBounds 16 (.slice a t.back.length c) = ({ t with ba := a, bc := c } : Tr).arr := by
  obtain ⟨⟨x0, x1, x2, x3, x4, x5, x6, x7, x8, x9⟩, _, _, _, _, _, _, _, _, _, _, _, _, _, _, _, _, _⟩ := t; rfl
theorem Tr.at_ins (t : Tr) : t.arr[12]? = some (.slice t.ia t.ins.length t.ic) := by
  obtain ⟨⟨x0, x1, x2, x3, x4, x5, x6, x7, x8, x9⟩, _, _, _, _, _, _, _, _, _, _, _, _, _, _, _, _, _⟩ := t; rfl
theorem Tr.at_ops (t : Tr) : t.arr[13]? = some (.slice t.oa t.ops.length t.oc) := by
  obtain ⟨⟨x0, x1, x2, x3, x4, x5, x6, x7, x8, x9⟩, _, _, _, _, _, _, _, _, _, _, _, _, _, _, _, _, _⟩ := t; rfl
theorem Tr.at_links (t : Tr) : t.arr[14]? = some (.slice t.la t.links.length t.lc) := by
  obtain ⟨⟨x0, x1, x2, x3, x4, x5, x6, x7, x8, x9⟩, _, _, _, _, _, _, _, _, _, _, _, _, _, _, _, _, _⟩ := t; rfl
theorem Tr.at_virts (t : Tr) : t.arr[15]? = some (.slice t.va t.virts.length t.vc) := by
  obtain ⟨⟨x0, x1, x2, x3, x4, x5, x6, x7, x8, x9⟩, _, _, _, _, _, _, _, _, _, _, _, _, _, _, _, _, _⟩ := t; rfl
theorem Tr.at_back (t : Tr) : t.arr[16]? = some (.slice t.ba t.back.length t.bc) := by
  obtain ⟨⟨x0, x1, x2, x3, x4, x5, x6, x7, x8, x9⟩, _, _, _, _, _, _, _, _, _, _, _, _, _, _, _, _, _⟩ := t; rfl
theorem Tr.at_fn (t : Tr) : t.arr[10]? = some (.int .i64 t.fn) := by
  obtain ⟨⟨x0, x1, x2, x3, x4, x5, x6, x7, x8, x9⟩, _, _, _, _, _, _, _, _, _, _, _, _, _, _, _, _, _⟩ := t; rfl
theorem Tr.at_pc (t : Tr) : t.arr[11]? = some (.int .i64 t.pc) := by
  obtain ⟨⟨x0, x1, x2, x3, x4, x5, x6, x7, x8, x9⟩, _, _, _, _, _, _, _, _, _, _, _, _, _, _, _, _, _⟩ := t; rfl
theorem info_parts {t : TypeId} {z : Value} {s b : Nat} (h : (Tryd.prog.info? t).map (fun i => (i.zero, i.size, i.bytes)) = some (some z, s, b)) : ∃ i, Tryd.prog.info? t = some i ∧ i.zero = some z ∧ i.size = s ∧ i.bytes = b := by
  cases hi : Tryd.prog.info? t with
  | none => rw [hi] at h; simp at h
  | some i => rw [hi] at h; simp at h; exact ⟨i, rfl, h.1, h.2.1, h.2.2⟩
theorem own_empty (w : World) (e : TypeId) (size : Nat) : (w.alloc (.cells #[] e)).ownsRow w.heap.size e size (.slice (some ⟨w.heap.size, 0, none⟩) 0 0) 0 [] := ⟨by simp, .inr ⟨w.heap.size, 0, #[], rfl, Nat.le_refl _, heap_alloc_new w _, Nat.le_refl _, by decide, by simp, by simp⟩⟩
theorem SL.row {w w' : World} {B : Nat} {a : Option Addr} {e : TypeId} {n c m y : Nat} {xs : List Value} (h : SL w B e a n c m y xs) (f : Fr [] w w') : ∀ ad, a = some ad → ∀ j u, xs[j]? = some u → w'.cell? (ad.add j) = some u := by
  intro ad ha j u hu
  obtain ⟨b, o, e, hc, hb⟩ := h.cell j u hu
  rw [ha] at e
  cases e
  rw [Addr.add_mid]
  exact f.cell1 hc (by simp)
theorem frz {w : World} {k i : Nat} {A : Array Value} {t : TypeId} (h : w.heap[k]? = some (.cells A t (0, 0))) : w.frozen? ⟨k, i, none⟩ = false := by simp [World.frozen?, h]
theorem ne_cells {w : World} {k : Nat} {A D : Array Value} {t t' : TypeId} {z z' : Nat × Nat} (h : w.heap[k]? = some (.cells A t z)) (h' : w.heap[k]? = some (.cells D t' z')) : t = t' := by
  rw [h] at h'
  injection h' with h'
  injection h' with _ h2 _
theorem info51 : (Tryd.prog.info? 51).map (·.size) = some 4 := by kernel_rfl
theorem SL.elem {α : Type} {f : α → List Value} {m : Nat} {w : World} {B : Nat} {e : TypeId} {a : Option Addr} {c y : Nat} {L : List α} (h : SL w B e a L.length c m y (L.flatMap f)) (hm : ∀ x ∈ L, (f x).length = m) (h0 : 0 < m) {i : Nat} {x : α} (hx : L[i]? = some x) :
    ∃ b o, a = some ⟨b, o, none⟩ ∧ w.rangeAt b (o + i * m) (f x) ∧ okb w B e b := by
  have hl : (f x).length = m := hm x (List.mem_of_getElem? hx)
  have h1 := flat_at hm hx 0 h0
  obtain ⟨b, o, e1, _, hb⟩ := h.cell _ _ (h1.trans (List.getElem?_eq_getElem (by omega)))
  refine ⟨b, o, e1, fun j v hv => ?_, hb⟩
  have hj : j < m := by have := (List.getElem?_eq_some_iff.1 hv).1; omega
  have h2 := flat_at hm hx j hj
  obtain ⟨b', o', e2, hc, _⟩ := h.cell _ _ (h2.trans hv)
  rw [e1] at e2
  cases e2
  rw [Nat.add_assoc]
  exact hc
theorem range_fr {w w' : World} {b o : Nat} {cs : List Value} (h : w.rangeAt b o cs) (f : Fr [] w w') : w'.rangeAt b o cs := fun j v hv => f.cell1 (h j v hv) (by simp)
theorem info26 : (Tryd.prog.info? 26).map (·.size) = some 10 := by kernel_rfl
theorem info48 : (Tryd.prog.info? 48).map (·.size) = some 5 := by kernel_rfl
theorem info57 : (Tryd.prog.info? 57).map (·.size) = some 5 := by kernel_rfl
theorem info59 : (Tryd.prog.info? 59).map (·.size) = some 2 := by kernel_rfl
theorem len1 {α : Type} {l : List α} (h : l.length = 1) : ∃ a, l = [a] := by
  match l, h with
  | [a], _ => exact ⟨a, rfl⟩
theorem len3 {α : Type} {l : List α} (h : l.length = 3) : ∃ a b c, l = [a, b, c] := by
  match l, h with
  | [a, b, c], _ => exact ⟨a, b, c, rfl⟩
theorem len4 {α : Type} {l : List α} (h : l.length = 4) : ∃ a b c d, l = [a, b, c, d] := by
  match l, h with
  | [a, b, c, d], _ => exact ⟨a, b, c, d, rfl⟩
theorem abs_at {L M : List El} (h : L.map El.abs = M.map El.abs) {i : Nat} {x : El} (hx : L[i]? = some x) : ∃ y, M[i]? = some y ∧ y.p = x.p ∧ y.q = x.q ∧ y.l = x.l := by
  have h1 : (M.map El.abs)[i]? = some x.abs := by rw [← h]; simp [hx]
  simp only [List.getElem?_map, Option.map_eq_some_iff] at h1
  obtain ⟨y, hy, e⟩ := h1
  injection e with e1 e2 e3
  exact ⟨y, hy, e1, e2, e3⟩
theorem abs_len {L M : List El} (h : L.map El.abs = M.map El.abs) : L.length = M.length := by simpa using congrArg List.length h
theorem range_block {w : World} {b : Nat} {A : Array Value} {t : TypeId} (h : w.heap[b]? = some (.cells A t (0, 0))) : w.rangeAt b 0 A.toList := fun j v hv => by
  rw [Nat.zero_add]
  exact at_cells h j (by simpa using hv)
theorem Tr.key_range {w : World} {T : Nat} {t : Tr} (h : w.heap[T]? = some (.cells t.arr 33 (0, 0))) : w.rangeAt T 0 (kc t.k).toList := fun j v hv => by
  rw [Nat.zero_add]
  refine at_cells h j ?_
  obtain ⟨⟨x0, x1, x2, x3, x4, x5, x6, x7, x8, x9⟩, _, _, _, _, _, _, _, _, _, _, _, _, _, _, _, _, _⟩ := t
  have hj := (List.getElem?_eq_some_iff.1 hv).1
  simp only [kc, kl0, List.map_cons, List.map_nil, List.length_cons, List.length_nil] at hj hv
  match j, hj, hv with
  | 0, _, hv => exact hv
  | 1, _, hv => exact hv
  | 2, _, hv => exact hv
  | 3, _, hv => exact hv
  | 4, _, hv => exact hv
  | 5, _, hv => exact hv
  | 6, _, hv => exact hv
  | 7, _, hv => exact hv
  | 8, _, hv => exact hv
  | 9, _, hv => exact hv

theorem Fr.setCells {S : List Nat} {a : World} {g : Nat} : ∀ (vs : List Value) (o : Nat) {b : World}, Fr S a b → (g ∈ S ∨ a.heap.size ≤ g) → Fr S a (b.setCells g o vs)
  | [], _, _, h, _ => h
  | v :: r, o, b, h, hg => by
    rw [World.setCells]
    exact Fr.setCells r (o + 1) (h.setCell (p := ⟨g, o, none⟩) hg v) hg
end Go.Proofs.YtkogfgbgmifcnaaDoor
