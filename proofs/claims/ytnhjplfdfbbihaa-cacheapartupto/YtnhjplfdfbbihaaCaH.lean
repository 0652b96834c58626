/-
  Copies of traces: how far they have come; condition: the trace lies as told.
-/
import Derived.Test.YtnhjplfdfbbihaaCaG
namespace Go.Proofs.Ytnhjplfdfbbihaa
open Go.RowKit
set_option linter.unusedVariables false
set_option linter.unusedSimpArgs false

/-- A copy under way: the trace's own block, the result's. -/
structure Wk (w wr : World) (t : Tr) : Prop where
  b1 : wr.heap[w.heap.size]? = some (.cells t.arr 35 (0, 0))
  b2 : wr.heap[w.heap.size + 1]? = some (.cells #[.int .i64 0, .int .i64 0, .int .i64 0, .int .i64 0, .int .i64 0, .int .i64 0, .int .i64 0, .int .i64 0, .int .i64 0, .int .i64 0, .int .i64 0, .int .i64 0, .slice none 0 0, .slice none 0 0, .slice none 0 0, .slice none 0 0, .slice none 0 0] 35 (0, 0))
  fr : Fr [] w wr
theorem Wk.step {w wr wr' : World} {t : Tr} (h : Wk w wr t) (f : Fr [] wr wr') : Wk w wr' t :=
  ⟨(f.block _ (Array.getElem?_eq_some_iff.1 h.b1).1 (by simp)).trans h.b1, (f.block _ (Array.getElem?_eq_some_iff.1 h.b2).1 (by simp)).trans h.b2, h.fr.trans f⟩
theorem Wk.set {w wr : World} {t t' : Tr} (h : Wk w wr t) (j : Nat) (v : Value) (e : t.arr.setIfInBounds j v = t'.arr) : Wk w (wr.setCell ⟨w.heap.size, j, none⟩ v) t' :=
  ⟨by rw [← e]; exact set_cells j v h.b1, (Below.heap_setCell _ _ _ _ (by simp)).trans h.b2, h.fr.setCell (.inr (by simp)) v⟩
theorem Wk.oth {w wr : World} {t : Tr} (h : Wk w wr t) {g : Nat} (h1 : g ≠ w.heap.size) (h2 : g ≠ w.heap.size + 1) (hg : w.heap.size ≤ g) (j : Nat) (v : Value) : Wk w (wr.setCell ⟨g, j, none⟩ v) t :=
  ⟨(Below.heap_setCell _ _ _ _ (by simpa using Ne.symm h1)).trans h.b1, (Below.heap_setCell _ _ _ _ (by simpa using Ne.symm h2)).trans h.b2, h.fr.setCell (.inr hg) v⟩
theorem SL.set {w wr : World} {t : Tr} (h : Wk w wr t) {B : Nat} {e : TypeId} {a : Option Addr} {n c m y : Nat} {xs : List Value} (s : SL wr B e a n c m y xs) (hB : B ≤ w.heap.size) (j : Nat) (v : Value) : SL (wr.setCell ⟨w.heap.size, j, none⟩ v) B e a n c m y xs :=
  s.fr ((Fr.refl _ _).setCell (S := [w.heap.size]) (.inl (by simp)) v) (fun k hk => by
    simp at hk
    subst hk
    refine ⟨hB, fun c t hc => ?_⟩
    rw [h.b1] at hc
    cases hc
    rfl)
theorem own_setT {w wr : World} {t : Tr} (h : Wk w wr t) {B n m : Nat} {e : TypeId} {v0 : Value} {xs : List Value} (s : wr.ownsRow B e m v0 n xs) (he : e ≠ 35) (j : Nat) (v : Value) : (wr.setCell ⟨w.heap.size, j, none⟩ v).ownsRow B e m v0 n xs :=
  own_fr s ((Fr.refl _ _).setCell (S := [w.heap.size]) (.inl (by simp)) v) (fun k hk hm => by
    simp at hm
    subst hm
    exact own_ne s h.b1 (Ne.symm he) hk)
theorem ElOk.set {w wr : World} {t : Tr} (h : Wk w wr t) {B np nq : Nat} {e : El} (s : ElOk wr B np nq e) (hB : B ≤ w.heap.size) (j : Nat) (v : Value) : ElOk (wr.setCell ⟨w.heap.size, j, none⟩ v) B np nq e := ⟨s.hp, s.hq, s.sl.set h hB j v⟩
end Go.Proofs.Ytnhjplfdfbbihaa
