/-
  Uses: the variables that an operation takes, in a row of one's own; conditions: the trace may be, the operation's link takes nothing.
-/
import Derived.Test.YtkogfgbgmifcnaaDoorTcV
import Derived.Test.YtkogfgbgmifcnaaDoorFmt
namespace Go.Proofs.YtkogfgbgmifcnaaDoor
open Go.RowKit Go.Shelf Go.Maps Go.ChangeShapes
set_option linter.unusedVariables false
set_option linter.unusedSimpArgs false
attribute [local go_sem] Oper.semAt_some store_func
/-- The variables among sources. -/
def vr (L : List Sr) : List Int := (L.filter (fun s => decide (s.k = 1))).map Sr.n
theorem vr_yes {L : List Sr} {x : Sr} (h : x.k = 1) : vr (L ++ [x]) = vr L ++ [x.n] := by simp [vr, List.filter_append, h]
theorem vr_no {L : List Sr} {x : Sr} (h : x.k ≠ 1) : vr (L ++ [x]) = vr L := by simp [vr, List.filter_append, h]
theorem vr_len (L : List Sr) : (vr L).length ≤ L.length := by simpa [vr] using List.length_filter_le _ L
theorem one_new (W : World) (z : Int) : ∀ j u, [Value.int .i64 z][j]? = some u → (W.alloc (.cells #[.int .i64 z] 3)).cell? ((⟨W.heap.size, 0, none⟩ : Addr).add j) = some u := by
  intro j u hu
  have hadd : (⟨W.heap.size, 0, none⟩ : Addr).add j = ⟨W.heap.size, j, none⟩ := by unfold Addr.add; split <;> simp_all
  rw [hadd]
  exact at_cells (heap_alloc_new W _) j (by simpa using hu)
theorem cu27 : Tryd.prog.underlying 27 = some (.slice 3) := by kernel_rfl
theorem ci3 : (Tryd.prog.info? 3).map (fun i => (i.zero, i.size, i.bytes)) = some (some (.int .i64 0), 1, 8) := by kernel_rfl
/-- What stands while variables are gathered. -/
structure GU (w0 : World) (bl d0 l base : Nat) (lo : Loop) (pre : List Sr) (O : List Nat) (W : World) : Prop where
  fr : Fr [] w0 W
  d : W.heap[d0]? = some (.deferred (some []))
  lp : W.heap[l]? = some (.loop lo)
  row : ∃ a c, W.heap[bl]? = some (.cells #[.slice a (vr pre).length c] 27 (0, 0)) ∧ W.ownsRow base 3 1 (.slice a (vr pre).length c) (vr pre).length ((vr pre).map (Value.int .i64)) ∧ ∀ k ∈ O, (Value.slice a (vr pre).length c).ownBlock ≠ some k
  hl : w0.heap.size ≤ d0 ∧ w0.heap.size ≤ l ∧ w0.heap.size ≤ bl ∧ d0 ≠ l ∧ bl ≠ d0 ∧ bl ≠ l ∧ bl < base ∧ d0 < base ∧ l < base
  far : ∀ k ∈ O, w0.heap.size ≤ k ∧ k ≠ bl ∧ k ≠ d0 ∧ k ≠ l
  ex : ∀ k ∈ O, k < W.heap.size
theorem GU.step {w0 : World} {bl d0 l base : Nat} {lo : Loop} {pre : List Sr} {O O' : List Nat} {W W' : World} (g : GU w0 bl d0 l base lo pre O W) (f : Fr O W W') (h : ∀ k ∈ O', k ∈ O ∨ W.heap.size ≤ k) (h' : ∀ k ∈ O', k < W'.heap.size) : GU w0 bl d0 l base lo pre O' W' := by
  have n2 : d0 ∉ O := fun hm => (g.far _ hm).2.2.1 rfl
  have n3 : l ∉ O := fun hm => (g.far _ hm).2.2.2 rfl
  have n4 : bl ∉ O := fun hm => (g.far _ hm).2.1 rfl
  obtain ⟨a, c, hb, ho, hx⟩ := g.row
  have l2 := at_lt g.d
  have l3 := at_lt g.lp
  have l4 := at_lt hb
  refine ⟨g.fr.over f (fun k hk => (g.far k hk).1), (f.block _ l2 n2).trans g.d, (f.block _ l3 n3).trans g.lp, ⟨a, c, (f.block _ l4 n4).trans hb, own_fr ho f (fun k hk hm => hx k hm hk), fun k hk => ?_⟩, g.hl, fun k hk => ?_, h'⟩
  · rcases h k hk with h1 | h1
    · exact hx k h1
    · intro e
      have := (ho.lt k e).2
      omega
  · rcases h k hk with h1 | h1
    · exact g.far k h1
    · have := g.fr.size
      exact ⟨by omega, by omega, by omega, by omega⟩
theorem GU.told {w0 : World} {bl d0 l base : Nat} {lo : Loop} {pre pre' : List Sr} {O : List Nat} {W W' : World} (g : GU w0 bl d0 l base lo pre O W) {S : List Nat} (f : Fr S W W') (hS : ∀ k ∈ S, k = l ∨ k = bl ∨ (base ≤ k ∧ k ∉ O)) (hl : W'.heap[l]? = some (.loop lo))
    (hr : ∃ a c, W'.heap[bl]? = some (.cells #[.slice a (vr pre').length c] 27 (0, 0)) ∧ W'.ownsRow base 3 1 (.slice a (vr pre').length c) (vr pre').length ((vr pre').map (Value.int .i64)) ∧ ∀ k ∈ O, (Value.slice a (vr pre').length c).ownBlock ≠ some k) :
    GU w0 bl d0 l base lo pre' O W' ∧ W.heap.size ≤ W'.heap.size ∧ ∀ k ∈ O, k < W.heap.size → W'.heap[k]? = W.heap[k]? := by
  obtain ⟨h1, h2, h3, h4, h5, h6, h7, h8, h9⟩ := g.hl
  refine ⟨⟨g.fr.over f (fun k hk => ?_), (f.block _ (at_lt g.d) (fun hm => ?_)).trans g.d, hl, hr, g.hl, g.far, fun k hk => Nat.lt_of_lt_of_le (g.ex k hk) f.size⟩, f.size, fun k hk hs => f.block k hs (fun hm => ?_)⟩
  · rcases hS k hk with rfl | rfl | ⟨h, _⟩ <;> omega
  · rcases hS _ hm with h | h | ⟨h, _⟩ <;> omega
  · have := g.far k hk
    rcases hS _ hm with h | h | ⟨_, h⟩
    · exact this.2.2.2 h
    · exact this.2.1 h
    · exact h hk
end Go.Proofs.YtkogfgbgmifcnaaDoor
