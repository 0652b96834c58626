/-
  Which instructions of any code make what nobody wants; condition: the tables lie as the program's text lays them.
-/
import Derived.Test.YtajdnakpljgkpaaDoorAwk
import Derived.Test.YtajdnakpljgkpaaDoorIrYb
import Derived.Test.YtajdnakpljgkpaaDoorIrF
import Derived.Test.YtajdnakpljgkpaaDoorRfC
import Derived.Test.YtajdnakpljgkpaaDoorDeaR
namespace Go.Proofs.YtajdnakpljgkpaaDoor
open Go.RowKit
set_option linter.unusedVariables false
set_option linter.unusedSimpArgs false

theorem ksEq_self (l : List Int) : ksEq l l = true := by simp [ksEq]
/-- What the program's list is, and the document's. -/
def DA (f : Fu) (u : World) (v : Value) : Prop := ∃ P a c, v = .slice a (deadN P f.code f.code.length).length c ∧ KAt u.heap.size u a (deadN P f.code f.code.length) ∧ Least f.code f.rs (fun i r => hasS (P i).s r = true) ∧ ∀ (i : Nat) (x : In), f.code[i]? = some x → (P i).wr = wrB f.rs x
def DR (f : Fu) (u : World) (v : Value) : Prop := ∃ S a c, v = .slice a (rdeadN S f.code f.rs f.code.length).length c ∧ KAt u.heap.size u a (rdeadN S f.code f.rs f.code.length) ∧ Least f.code f.rs (fun i r => r < regN f.rs ∧ S i r = true)
theorem dead_call {b : Nat} {f : Fu} {W W' : World} (hf : FuOk b W f) (hB : b ≤ W.heap.size) (hN : f.code.length ≤ 2000000) (hl : ∀ x ∈ f.code, x.l.length ≤ 8000000000000) (T : Tabs W) (f' : Fr [] W W') : Calls Tryd.prog 12 #[.agg f.arr] W' fun e u => ∃ v, e = .returned v ∧ (∀ u', Fr [] u u' → DA f u' v) ∧ Fr [] W' u :=
  (dead_any b f W' (hf.fr f' (by simp)) (Nat.le_trans hB f'.size) hN hl (T.fr f' (by simp))).mono fun e u ⟨v, P, h1, h2, h3, h5, h4⟩ => ⟨v, h1, fun u' k => by
    obtain ⟨a, c, rfl, _, _⟩ := h2.slice
    exact ⟨P, a, c, rfl, (h2.kat.fr k (by simp)).up k.size, h3, h5⟩, h4⟩
theorem rdead_call {b : Nat} {f : Fu} {W W' : World} (hf : FuOk b W f) (hB : b ≤ W.heap.size) (hN : f.code.length ≤ 2000000) (hl : ∀ x ∈ f.code, x.l.length ≤ 8000000000000) (f' : Fr [] W W') : Calls Tryd.prog 13 #[.agg f.arr] W' fun e u => ∃ v, e = .returned v ∧ (∀ u', Fr [] u u' → DR f u' v) ∧ Fr [] W' u :=
  (rdead_any b f W' (hf.fr f' (by simp)) (Nat.le_trans hB f'.size) hN hl).mono fun e u ⟨v, S, h1, h2, h3, h4⟩ => ⟨v, h1, fun u' k => by
    obtain ⟨a, c, rfl, _, _⟩ := h2.slice
    exact ⟨S, a, c, rfl, (h2.kat.fr k (by simp)).up k.size, h3⟩, h4⟩
theorem same_call {f : Fu} (hN : f.code.length ≤ 2000000) {w' : World} {v1 v2 : Value} (h1 : DA f w' v1) (h2 : DR f w' v2) : Calls Tryd.prog 11 #[v1, v2] w' fun e w'' => e = .returned (.bool true) ∧ Fr [] w' w'' := by
  obtain ⟨P, a, c, rfl, ka, hle, hw⟩ := h1
  obtain ⟨S, a2, c2, rfl, kb, hle2⟩ := h2
  have he := dead_eq hle hw hle2 (fun i z hz => next_in hz)
  rw [← he] at kb ⊢
  have hlen := deadN_len P f.code f.code.length
  have C := ints_any w'.heap.size w' (deadN P f.code f.code.length) (deadN P f.code f.code.length) a a2 _ _ c c2 rfl rfl (by unfold maxLen; omega) (by unfold maxLen; omega) ka kb
  rw [ksEq_self] at C
  exact C

set_option maxRecDepth 100000 in
set_option maxHeartbeats 8000000 in
theorem liveDead_walk (f : Fu) (w : World) (hf : FuOk w.heap.size w f) (hN : f.code.length ≤ 2000000) (hl : ∀ x ∈ f.code, x.l.length ≤ 8000000000000) (T : Tabs w) :
    Calls Tryd.prog 4 #[.agg f.arr] w fun e w' => e = .returned (.bool true) ∧ Fr [] w w' := by
  have F0 : Fr [] w (w.alloc (.cells f.arr 24)) := (Fr.refl _ _).alloc _
  have bx : (w.alloc (.cells f.arr 24)).heap[w.heap.size]? = some (.cells f.arr 24 (0, 0)) := heap_alloc_new w _
  have HX : Hid (FuOk w.heap.size (w.alloc (.cells f.arr 24)) f) := hf.fr F0 (by simp)
  have HT : Hid (Tabs (w.alloc (.cells f.arr 24))) := T.fr F0 (by simp)
  have CA := awake_any _ HT.out
  have HF : Hid (Fr [] w (w.alloc (.cells f.arr 24))) := F0
  clear hf T F0
  go_enter Tryd.func4, Tryd.ntmps4
  unfold Fu.arr at CA bx HX HT HF ⊢
  go_wp2_with fail
  with_reducible (refine CA.mono ?_)
  rintro e W2 ⟨rfl, f1⟩
  have B2 := (f1.block _ (Array.getElem?_eq_some_iff.1 bx).1 (by simp)).trans bx
  have HG : Hid (Fr [] w W2) := HF.out.trans f1
  have X2 : FuOk w.heap.size W2 f := HX.out.fr f1 (by simp)
  have T2 : Tabs W2 := HT.out.fr f1 (by simp)
  have hw2 : w.heap.size ≤ W2.heap.size := HG.out.size
  have C8 := fun w' (f' : Fr [] W2 w') => few_any w.heap.size f w' (X2.fr f' (by simp)) (Nat.le_trans hw2 f'.size)
  have C12 := fun w' (f' : Fr [] W2 w') => dead_call X2 hw2 hN hl T2 f'
  have C13 := fun w' (f' : Fr [] W2 w') => rdead_call X2 hw2 hN hl f'
  have C11 := fun w' (f' : Fr [] W2 w') v1 v2 (h1 : DA f w' v1) (h2 : DR f w' v2) => same_call hN h1 h2
  have m0 : ∀ w', Fr [] W2 w' → w'.cell? ⟨w.heap.size, 0, none⟩ = some (.string f.name) := fun w' f => f.cell1 (at_cells B2 0 rfl) (by simp)
  have m1 : ∀ w', Fr [] W2 w' → w'.cell? ⟨w.heap.size, 1, none⟩ = some (.int .i64 f.ps) := fun w' f => f.cell1 (at_cells B2 1 rfl) (by simp)
  have m2 : ∀ w', Fr [] W2 w' → w'.cell? ⟨w.heap.size, 2, none⟩ = some (.int .i64 f.rs) := fun w' f => f.cell1 (at_cells B2 2 rfl) (by simp)
  have m3 : ∀ w', Fr [] W2 w' → w'.cell? ⟨w.heap.size, 3, none⟩ = some (.slice f.ca f.code.length f.cc) := fun w' f => f.cell1 (at_cells B2 3 rfl) (by simp)
  unfold Fu.arr at C8 C12 C13
  clear CA f1 bx HX HT HF X2 T2 B2
  go_upto_region 3 with fail
  refine deads_both m0 m1 m2 m3 (DA f) (DR f) C8 C12 C13 C11 ?_
  intro n5 n6 n7 n8 n9 n10 n11 n12 n13 n14 X3 f3
  have HGG : Hid (Fr [] w X3) := HG.out.trans f3
  clear m0 m1 m2 m3 C8 C12 C13 C11 f3
  go_wp2
  go_ret
  exact ⟨rfl, HGG.out⟩
end Go.Proofs.YtajdnakpljgkpaaDoor
