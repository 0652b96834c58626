/-
  How code that comes in is read; no condition.
-/
import Derived.Test.YtdaealionicmjaaDoorIrX
namespace Go.Proofs.YtdaealionicmjaaDoor
open Go.ChangeShapes Go.WideShapes Go.ChangeAt Go.RowKit Go.Deep
set_option linter.unusedVariables false
set_option linter.unusedSimpArgs false
set_option maxRecDepth 100000

/-- Functions that came in. -/
theorem read_funs {H : Type} {enc : TypeId × Value → H} {w : World} {spare : Nat → Bool} {held : Bool} {fuel : Nat} {v : Value} {x : DataW H × List MemPlace} (h : DataW.trod enc Tryd.prog w 0 spare held fuel 22 [v] = some x) (hS : ∀ n ∈ x.1.weights Tryd.prog 22, n ≤ reachBytes) :
    ∃ (a : Option Addr) (cap : Nat) (L : List Fu), v = .slice a L.length cap ∧ FAt w.heap.size w a L ∧ L.length ≤ 2600000000000 ∧ L.length ≤ cap ∧ (a = none → cap = 0) ∧ ∀ y ∈ L, (∀ z ∈ y.code, wfI z.k) ∧ y.code.length ≤ 2300000000000 := by
  rcases open_slice Tryd.underlying22 h with ⟨e, rfl⟩ | ⟨a, len, cap, m, n, D, Pl, e, _, hl, hm, hmm, rfl, hc⟩
  · simp at e
    subst e
    exact ⟨none, 0, [], rfl, fun i x hx => by simp at hx, by simp, by simp, fun _ => rfl, fun y hy => by simp at hy⟩
  · simp at e
    subst e
    have hlm : len ≤ m := by rw [hmm]; split <;> omega
    rw [cells34] at hc
    have hlen : len * 56 ≤ reachBytes := by
      refine Nat.le_trans ?_ (hS _ (by simp only [DataW.weights, Tryd.underlying22]; exact List.mem_cons_self))
      rw [bytes34]
      simp
      exact Nat.mul_le_mul_right _ (by omega)
    have each : ∀ i, i < len → ∃ y : Fu, (∀ j, j < 4 → w.cell? (a.add (i * 4 + j)) = y.arr.toList[j]?) ∧ FuOk w.heap.size w y ∧ (∀ z ∈ y.code, wfI z.k) ∧ y.code.length ≤ 2300000000000 := by
      intro i hi
      obtain ⟨cs', h1, h2⟩ := hc i (by omega)
      obtain ⟨_, hlen, hcell⟩ := World.cells?_some h1
      obtain ⟨y, rfl, hs⟩ := read_fun h2 (fun n hn => hS n (by
        simp only [DataW.weights, Tryd.underlying22, List.mem_cons, List.mem_append]
        exact .inr (.inl (weights_all _ i (D i) (by simp [hi]) n hn))))
      refine ⟨y, fun j hj => ?_, hs⟩
      have := hcell j hj
      rwa [add_add] at this
    obtain ⟨L, hL, hp⟩ := choose_lt each
    refine ⟨some a, cap, L, by rw [hL], ?_, (by rw [hL]; unfold reachBytes at hlen; omega), (by rw [hL]; exact hl), (fun h => (by cases h)), fun y hy => ?_⟩
    · intro i y hy
      obtain ⟨hcl, hk, _⟩ := hp i y hy
      have h0 : 0 < L.length := by have := (List.getElem?_eq_some_iff.1 hy).1; omega
      have hs0 := (hp 0 L[0] (List.getElem?_eq_getElem h0)).1 0 (by omega)
      obtain ⟨b, off, spot⟩ := a
      have hspot : spot = none := by simpa [Addr.add] using World.cell?_spot hs0
      subst hspot
      have hadd : ∀ j, (Addr.mk b off none).add j = ⟨b, off + j, none⟩ := fun j => Addr.add_lit b off j
      simp only [hadd] at hcl
      have hblk : b < w.heap.size := World.block_lt_of_cell? w _ (hcl 0 (by omega))
      refine ⟨b, off, rfl, hblk, ?_⟩
      have e := fun j hj => (hcl j hj)
      exact ⟨e 0 (by omega), e 1 (by omega), e 2 (by omega), e 3 (by omega), hk⟩
    · obtain ⟨i, hi⟩ := List.getElem?_of_mem hy
      exact (hp i y hi).2.2
theorem code_form {H : Type} {enc : TypeId × Value → H} {w w' : World} {r} {base : Nat} {spare : Nat → Bool} {held : Bool} {fuel : Nat} {v : Value} {x : DataW H × List MemPlace} (hv : Value.okWide Tryd.prog w' r base 24 v) (h : DataW.trod enc Tryd.prog w 0 spare held fuel 24 v.cells.toList = some x) (hS : ∀ n ∈ x.1.weights Tryd.prog 24, n ≤ reachBytes) :
    ∃ (F : List Fu) (fa : Option Addr) (cap : Nat) (mn mg : Int), v = .agg #[.slice fa F.length cap, .int .i64 mn, .int .i64 mg] ∧ FAt w.heap.size w fa F ∧ (F.length ≤ 2600000000000 ∧ F.length ≤ cap ∧ (fa = none → cap = 0)) ∧ ∀ y ∈ F, (∀ z ∈ y.code, wfI z.k) ∧ y.code.length ≤ 2300000000000 := by
  obtain ⟨cs, rfl, _⟩ := okWide_struct Tryd.underlying24 hv
  obtain ⟨xs, n, _, rfl, hl, hlen, hf⟩ := DataW.trod_struct Tryd.underlying24 h
  rw [cells24] at hl
  obtain ⟨cs⟩ := cs
  simp only [Value.cells] at hl hf
  match cs, hl, xs, hlen with
  | [v0, v1, v2], _, [y0, y1, y2], _ =>
    have g0 := hf 0 _ rfl
    have g1 := hf 1 _ rfl
    have g2 := hf 2 _ rfl
    simp [cells22, cells3] at g0 g1 g2
    obtain ⟨d1, e1, _, _⟩ := DataW.trod_int Tryd.underlying3 g1
    obtain ⟨d2, e2, _, _⟩ := DataW.trod_int Tryd.underlying3 g2
    have hS0 : ∀ n ∈ y0.1.weights Tryd.prog 22, n ≤ reachBytes := fun n hn => hS n (by
      simp only [List.map, DataW.weights, Tryd.underlying24, DataW.weightsEach, List.mem_append]
      exact .inl hn)
    obtain ⟨a, cap, L, e0, hI, hll, hlc, hkn, hwk⟩ := read_funs g0 hS0
    simp at e1 e2
    subst e0 e1 e2
    exact ⟨L, a, cap, d1, d2, rfl, hI, ⟨hll, hlc, hkn⟩, hwk⟩
end Go.Proofs.YtdaealionicmjaaDoor
