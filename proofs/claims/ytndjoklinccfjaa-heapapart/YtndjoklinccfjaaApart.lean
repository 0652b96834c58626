/-
  HeapApart returns true for every list of cells and every value, and leaves its arguments as they were; no condition.
-/
import Derived.Test.YtndjoklinccfjaaRows
import Derived.Test.YtndjoklinccfjaaApartA
import Derived.WalkKit
import Derived.ProofKit
import Derived.OpenShut
import Derived.Below
import Derived.Lib.SmallJoins
import Derived.Deep.SlicePairs
namespace Go.Proofs.Ytndjoklinccfjaa.heapApart
open Go.ChangeShapes Go.WideShapes Go.ChangeAt Go.RowKit Go.Joins Go.Deep
set_option linter.unusedVariables false

theorem own : ownKnob Try.prog.godebug = none := by kernel_rfl
theorem laidOut : laidOutB Try.prog = true := by kernel_rfl
theorem cells30 : Try.prog.cellsOf 30 = 2 := by kernel_rfl
theorem cells3 : Try.prog.cellsOf 3 = 1 := by kernel_rfl
theorem cells2 : Try.prog.cellsOf 2 = 1 := by kernel_rfl

theorem flat_lies {w : World} {a : Addr} {len : Nat} {p q : Nat → Int} (h : ∀ i, i < len → w.cell? (a.add (i * 2)) = some (.int .i64 (p i)) ∧ w.cell? (a.add (i * 2 + 1)) = some (.int .i64 (q i))) :
    ∀ j u, (flat ((List.range len).map fun i => (p i, q i)))[j]? = some u → w.cell? (a.add j) = some u := by
  intro j u hj
  have hlt : j < len * 2 := by
    have := (List.getElem?_eq_some_iff.1 hj).1
    rw [flat_length] at this
    simpa using this
  have hi : j / 2 < len := by omega
  have hx : ((List.range len).map fun i => (p i, q i))[j / 2]? = some (p (j / 2), q (j / 2)) := by simp [hi]
  have ha := flat_at _ _ _ hx
  have hc := h (j / 2) hi
  rcases Nat.mod_two_eq_zero_or_one j with hm | hm
  · have e : j / 2 * 2 = j := by omega
    rw [e] at ha hc
    rw [ha.1] at hj
    injection hj with hj
    rw [← hj]
    exact hc.1
  · have e : j / 2 * 2 + 1 = j := by omega
    rw [e] at ha hc
    rw [ha.2] at hj
    injection hj with hj
    rw [← hj]
    exact hc.2

theorem read_vals {H : Type} {enc : TypeId × Value → H} {w : World} {spare : Nat → Bool} {held : Bool} {fuel : Nat} {a0 : Option Addr} {len cap : Nat} {x : DataW H × List MemPlace}
    (h : DataW.trod enc Try.prog w 0 spare held fuel 31 [.slice a0 len cap] = some x) :
    ∃ xs : List (Int × Int), xs.length = len ∧ (0 < len → ∃ sb so, a0 = some ⟨sb, so, none⟩ ∧ sb < w.heap.size ∧ Lies w (some ⟨sb, so, none⟩) xs) := by
  rcases open_slice_pairs Try.underlying31 Try.underlying30 cells30 rfl rfl cells3 cells2 h with ⟨e, _⟩ | ⟨a, l, c, m, n, V0, V1, D0, D1, P0, P1, e, _, hl, hm, hmm, _, hc⟩
  · simp at e
    obtain ⟨rfl, rfl, rfl⟩ := e
    exact ⟨[], rfl, fun h => by omega⟩
  · simp at e
    obtain ⟨rfl, rfl, rfl⟩ := e
    have hlm : len ≤ m := by rw [hmm]; split <;> omega
    have hv : ∀ i, i < len → w.cell? (a.add (i * 2)) = some (.int .i64 (intOf (V0 i))) ∧ w.cell? (a.add (i * 2 + 1)) = some (.int .i64 (intOf (V1 i))) := by
      intro i hi
      obtain ⟨h0, h1, h2, h3⟩ := hc i (by omega)
      obtain ⟨n0, e0, _, _⟩ := DataW.trod_int Try.underlying3 h2
      obtain ⟨n1, e1, _, _⟩ := DataW.trod_int Try.underlying2 h3
      simp at e0 e1
      rw [e0] at h0
      rw [e1] at h1
      exact ⟨by rw [h0, e0]; rfl, by rw [h1, e1]; rfl⟩
    refine ⟨(List.range len).map fun i => (intOf (V0 i), intOf (V1 i)), by simp, fun hp => ?_⟩
    have h0 := (hv 0 hp).1
    obtain ⟨b, off, spot⟩ := a
    have hspot : spot = none := by simpa [Addr.add] using World.cell?_spot h0
    subst hspot
    refine ⟨b, off, rfl, ?_, fun _ => ⟨_, rfl, flat_lies hv⟩⟩
    have := World.block_lt_of_cell? w _ h0
    simpa [Addr.add] using this

set_option maxRecDepth 100000 in
theorem lifted (os : Os) (started : os.Started) (H : Type) (enc : TypeId × Value → H) :
    ReturnsInHanded {} Try.checked os 5 .any (Rows.heapApartSpec.pre6 enc Try.prog Try.f5 Rows.heapApartRow.domain false) (Rows.heapApartSpec.post enc Try.prog Try.f5 false true false false) := by
  refine returnsInHanded_of_change (C := Try.checked) own started (by kernel_rfl) Try.func5
    (ChangeSpec.witness6 (enc := enc) (C := Try.checked) false ⟨#[], #[.slice none 0 0, .agg #[.int .i64 0, .int .i64 0]], []⟩ 8 (by kernel_rfl) (by kernel_rfl) (by kernel_rfl) (by kernel_rfl)) ?_
  intro W base args ds gs before hval0 hW hcnd _
  have hval : ∀ (j : Nat) t v, Try.f5.params[j]? = some t → args[j]? = some v → Value.okWide Try.prog W .any base t v := hval0
  have hW' := hW
  obtain ⟨p, q, hA0, hV, rfl, hfz, hnd⟩ := hW
  have hA : DataW.TrodAll enc Try.prog W 0 (fun _ => true) true Try.f5.params.toList args.toList ds p := hA0
  rw [Try.params5] at hA hval
  obtain ⟨v0, vs0, d0, ds0, p0, q0, hargs, rfl, rfl, h0, r0⟩ := trodAll_cons hA
  obtain ⟨v1, vs1, d1, ds1, p1, q1, rfl, rfl, rfl, h1, r1⟩ := trodAll_cons r0
  obtain ⟨rfl, rfl, rfl⟩ := trodAll_nil r1
  obtain rfl : args = #[v0, v1] := by cases args; simp_all
  obtain ⟨rfl, rfl⟩ := trodVars_none hV
  obtain ⟨a0, len0, cap0, rfl⟩ := okWide_slice Try.underlying31 (hval 0 31 v0 rfl rfl)
  have k0 := h0
  have lt0 : ∀ x ∈ p0, x.block < W.heap.size := by obtain ⟨m, hm⟩ := k0; exact DataW.trod_lt m _ _ _ hm
  have k1 := h1
  have lt1 : ∀ x ∈ p1, x.block < W.heap.size := by obtain ⟨m, hm⟩ := k1; exact DataW.trod_lt m _ _ _ hm
  obtain ⟨xs, rfl, hxs⟩ : ∃ xs : List (Int × Int), xs.length = len0 ∧ (0 < len0 → ∃ sb so, a0 = some ⟨sb, so, none⟩ ∧ sb < W.heap.size ∧ Lies W (some ⟨sb, so, none⟩) xs) := by
    obtain ⟨fuel, hf⟩ := h0
    exact read_vals (by simpa [Value.cells] using hf)
  obtain ⟨x1, x2, hv1⟩ : ∃ x1 x2, v1 = .agg #[.int .i64 x1, .int .i64 x2] := by
    obtain ⟨c0, c1, y0, y1, m, rfl, _, _, hy0, hy1⟩ := open_agg2 Try.underlying30 (by kernel_rfl) cells30 (hval 1 30 v1 rfl rfl) h1
    obtain ⟨a, e0, _, _⟩ := DataW.trod_int Try.underlying3 hy0
    obtain ⟨b, e1, _, _⟩ := DataW.trod_int Try.underlying2 hy1
    simp at e0 e1
    subst e0 e1
    exact ⟨a, b, rfl⟩
  subst hv1
  clear hA0 hval0
  refine (apart_any xs a0 cap0 x1 x2 W hxs).mono fun e W' ⟨he, bel⟩ => ?_
  subst he
  exact ⟨_, rfl, _, _, _, [], _, [], hW', trodAll_mk1 (shut_bool Try.underlying4 _), (trodAll_cons_mk (Below.trod laidOut (by kernel_rfl) (of_decide_eq_true (by kernel_rfl)) k0 bel lt0) (trodAll_cons_mk (Below.trod laidOut (by kernel_rfl) (of_decide_eq_true (by kernel_rfl)) k1 bel lt1) trodAll_mk0)), rfl, bel.frame _, fun h => by cases h⟩

theorem over : Rows.heapApartRow.holds Try.pinned (OpenSpec.ofChange Rows.heapApartSpec) :=
  OpenClaim.holds_of_wide 5 Try.f5 rfl rfl rfl rfl rfl rfl rfl ⟨rfl, rfl, rfl, rfl, rfl⟩ rfl rfl rfl rfl rfl (by kernel_rfl) Try.func5 (by kernel_rfl)
    (of_decide_eq_true (by kernel_rfl)) (by unfold Func.isWrapper; first | (rw [if_pos (by decide +kernel)]; kernel_rfl) | (rw [if_neg (by decide +kernel)]; exact ⟨rfl, rfl⟩))
    (fun os started H enc _ => lifted os started H enc)
end Go.Proofs.Ytndjoklinccfjaa.heapApart
namespace Go.Proofs.Ytndjoklinccfjaa
theorem heapApart_holds : Rows.HeapApartSaid := heapApart.over
#print axioms heapApart_holds
end Go.Proofs.Ytndjoklinccfjaa
