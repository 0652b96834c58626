/-
  What is handed in: keys, values, acts, numbers; conditions: the arguments read as data.
-/
import Derived.Test.YtjeddgjndpdhoaaPrA
import Derived.Test.YtjeddgjndpdhoaaPrB
import Derived.Test.YtjeddgjndpdhoaaRows
import Derived.WalkKit
import Derived.ProofKit
import Derived.OpenShut
import Derived.Below
import Derived.Deep.Slices
import Derived.Deep.Strs
import Derived.Lib.SmallJoins
namespace Go.Proofs.Ytjeddgjndpdhoaa
open Go.ChangeShapes Go.WideShapes Go.ChangeAt Go.RowKit Go.Deep
set_option linter.unusedVariables false
set_option linter.unusedSimpArgs false
set_option maxRecDepth 100000

theorem cells38 : Try.prog.cellsOf 38 = 11 := by kernel_rfl
theorem choose_lt {α : Type} {m : Nat} {p : Nat → α → Prop} (h : ∀ i, i < m → ∃ x, p i x) : ∃ l : List α, l.length = m ∧ ∀ (i : Nat) (x : α), l[i]? = some x → p i x := by
  induction m with
  | zero => exact ⟨[], rfl, fun i x hx => by simp at hx⟩
  | succ m ih =>
    obtain ⟨l, h1, h2⟩ := ih (fun i hi => h i (by omega))
    obtain ⟨x, hx⟩ := h m (by omega)
    refine ⟨l ++ [x], by simp [h1], fun i y hy => ?_⟩
    by_cases hi : i < l.length
    · rw [List.getElem?_append_left hi] at hy
      exact h2 i y hy
    · rw [List.getElem?_append_right (by omega)] at hy
      have h3 : i - l.length = 0 := by have := (List.getElem?_eq_some_iff.1 hy).1; simp at this; omega
      rw [h3] at hy
      simp at hy
      subst hy
      have h4 : i = m := by omega
      rw [h4]
      exact hx
theorem add_add (a : Addr) (i j : Nat) : (a.add i).add j = a.add (i + j) := by
  by_cases hi : i = 0 <;> by_cases hj : j = 0 <;> simp [Addr.add, hi, hj, Nat.add_assoc]
section
variable {H : Type} {enc : TypeId × Value → H} {w : World} {spare : Nat → Bool} {held : Bool} {fuel : Nat} {x : DataW H × List MemPlace}
/-- A value, of two cells. -/
theorem read_val {cs : List Value} (h : DataW.trod enc Try.prog w 0 spare held fuel 25 cs = some x) : ∃ p q, cs = [.int .i64 p, .int .i64 q] ∧ (Lit.int .i64 p).wf = true ∧ (Lit.int .i64 q).wf = true := by
  obtain ⟨xs, n, _, rfl, hl, hlen, hf⟩ := DataW.trod_struct Try.underlying25 h
  rw [cells25] at hl
  match cs, hl, xs, hlen with
  | [v0, v1], _, [y0, y1], _ =>
    have g0 := hf 0 _ rfl
    have g1 := hf 1 _ rfl
    simp [cells3, cells2] at g0 g1
    obtain ⟨p, e0, _, w0⟩ := DataW.trod_int Try.underlying3 g0
    obtain ⟨q, e1, _, w1⟩ := DataW.trod_int Try.underlying2 g1
    simp at e0 e1
    subst e0 e1
    exact ⟨p, q, rfl, w0, w1⟩
/-- A key, of ten cells. -/
theorem read_key {cs : List Value} (h : DataW.trod enc Try.prog w 0 spare held fuel 28 cs = some x) : ∃ k : Ky, cs = (kc k).toList ∧ kw k := by
  obtain ⟨xs, n, _, rfl, hl, hlen, hf⟩ := DataW.trod_struct Try.underlying28 h
  rw [cells28] at hl
  match cs, hl, xs, hlen with
  | [v0, v1, v2, v3, v4, v5, v6, v7, v8, v9], _, [y0, y1, y2], _ =>
    have g0 := hf 0 _ rfl
    have g1 := hf 1 _ rfl
    have g2 := hf 2 _ rfl
    simp [cells3, cells26] at g0 g1 g2
    obtain ⟨a, e0, _, w0⟩ := DataW.trod_int Try.underlying3 g0
    obtain ⟨b, e1, _, w1⟩ := DataW.trod_int Try.underlying3 g1
    obtain ⟨zs, m, _, _, _, hz, hi⟩ := DataW.trod_array Try.underlying26 g2
    have q0 := hi 0 (by omega)
    have q1 := hi 1 (by omega)
    have q2 := hi 2 (by omega)
    have q3 := hi 3 (by omega)
    rw [List.getElem?_eq_getElem (by omega)] at q0 q1 q2 q3
    simp [cells25] at q0 q1 q2 q3
    obtain ⟨c, d, e2, w2, w3⟩ := read_val q0
    obtain ⟨e, f, e3, w4, w5⟩ := read_val q1
    obtain ⟨g, h', e4, w6, w7⟩ := read_val q2
    obtain ⟨i, j, e5, w8, w9⟩ := read_val q3
    simp at e0 e1 e2 e3 e4 e5
    obtain ⟨rfl, rfl⟩ := e2
    obtain ⟨rfl, rfl⟩ := e3
    obtain ⟨rfl, rfl⟩ := e4
    obtain ⟨rfl, rfl⟩ := e5
    subst e0 e1
    refine ⟨(a, b, c, d, e, f, g, h', i, j), rfl, ?_⟩
    intro y hy
    simp only [kl0, List.mem_cons, List.not_mem_nil, or_false] at hy
    rcases hy with rfl | rfl | rfl | rfl | rfl | rfl | rfl | rfl | rfl | rfl <;> assumption
/-- An act, of eleven cells. -/
theorem read_act {cs : List Value} (h : DataW.trod enc Try.prog w 0 spare held fuel 38 cs = some x) : ∃ (d : Int) (k : Ky), cs = .int .i64 d :: (kc k).toList ∧ kw k := by
  obtain ⟨xs, n, _, rfl, hl, hlen, hf⟩ := DataW.trod_struct Try.underlying38 h
  rw [cells38] at hl
  match cs, hl, xs, hlen with
  | v0 :: r, hl, [y0, y1], _ =>
    have g0 := hf 0 _ rfl
    have g1 := hf 1 _ rfl
    have hr : r.length = 10 := by simpa using hl
    simp [cells3, cells28] at g0 g1
    rw [List.take_of_length_le (by omega)] at g1
    obtain ⟨d, e0, _, _⟩ := DataW.trod_int Try.underlying3 g0
    obtain ⟨k, e1, hk⟩ := read_key g1
    simp at e0
    subst e0 e1
    exact ⟨d, k, rfl, hk⟩
/-- A list that came in, of whatever elements of m cells. -/
theorem read_list {α : Type} {t e : TypeId} {m : Nat} (hm : 0 < m) (ht : Try.prog.underlying t = some (.slice e)) (hce : Try.prog.cellsOf e = m) (f : α → List Value) (p : α → Prop) (hf : ∀ y, (f y).length = m)
    (rd : ∀ {fuel : Nat} {cs : List Value} {x : DataW H × List MemPlace}, DataW.trod enc Try.prog w 0 spare held fuel e cs = some x → ∃ y, cs = f y ∧ p y) {v : Value} (h : DataW.trod enc Try.prog w 0 spare held fuel t [v] = some x) :
    ∃ (a : Option Addr) (cap : Nat) (L : List α), v = .slice a L.length cap ∧ (∀ y ∈ L, p y) ∧ L.length ≤ cap ∧ cap ≤ maxLen ∧ (a = none → cap = 0) ∧ ∀ (i : Nat) (y : α), L[i]? = some y → ∃ b o, a = some ⟨b, o, none⟩ ∧ b < w.heap.size ∧ ∀ (j : Nat) (u : Value), (f y)[j]? = some u → w.cell? ⟨b, o + i * m + j, none⟩ = some u := by
  rcases DataW.trod_slice ht h with ⟨e1, _⟩ | ⟨a, len, cap, elems, rest, n, _, e1, _, _, hlc, hcm, hel, hc, _, _⟩
  · simp at e1
    subst e1
    exact ⟨none, 0, [], rfl, by simp, by simp, by simp [maxLen], fun _ => rfl, fun i y hy => by simp at hy⟩
  · simp at e1
    subst e1
    have each : ∀ i, i < len → ∃ y : α, (∀ (j : Nat) (u : Value), (f y)[j]? = some u → w.cell? (a.add (i * m + j)) = some u) ∧ p y := by
      intro i hi
      have h0 := hc i hi
      rw [List.getElem?_eq_getElem (by omega), hce] at h0
      obtain ⟨cs', h1, h2⟩ := Option.bind_eq_some_iff.1 h0
      obtain ⟨_, hlen, hcell⟩ := World.cells?_some h1
      obtain ⟨y, rfl, hp⟩ := rd h2
      refine ⟨y, fun j u hu => ?_, hp⟩
      have hj : j < m := by have := (List.getElem?_eq_some_iff.1 hu).1; rw [hf] at this; exact this
      have := hcell j hj
      rw [add_add] at this
      rw [this]; exact hu
    obtain ⟨L, hL, hp⟩ := choose_lt each
    refine ⟨some a, cap, L, by rw [hL], fun y hy => ?_, by omega, hcm, (fun h => (by cases h)), ?_⟩
    · obtain ⟨i, hi⟩ := List.getElem?_of_mem hy
      exact (hp i y hi).2
    · intro i y hy
      have hcl := (hp i y hy).1
      have hf0 : (f y)[0]? = some ((f y)[0]'(by rw [hf]; exact hm)) := List.getElem?_eq_getElem _
      have hl0 : 0 < L.length := by have := (List.getElem?_eq_some_iff.1 hy).1; omega
      have hs := (hp 0 L[0] (List.getElem?_eq_getElem hl0)).1 0 _ (List.getElem?_eq_getElem (by rw [hf]; exact hm))
      obtain ⟨b, off, spot⟩ := a
      have hspot : spot = none := by simpa [Addr.add] using World.cell?_spot hs
      subst hspot
      have hadd : ∀ j, (Addr.mk b off none).add j = ⟨b, off + j, none⟩ := fun j => Addr.add_lit b off j
      simp only [hadd] at hcl
      have hblk : b < w.heap.size := World.block_lt_of_cell? w _ (hcl 0 _ hf0)
      exact ⟨b, off, rfl, hblk, fun j u hu => by have := hcl j u hu; rw [← Nat.add_assoc] at this; exact this⟩
end
theorem key_form {H : Type} {enc : TypeId × Value → H} {w w' : World} {r} {base : Nat} {spare : Nat → Bool} {held : Bool} {v : Value} {d : DataW H} {p : List MemPlace} (hv : Value.okWide Try.prog w' r base 28 v) (h : DataW.Trod enc Try.prog w 0 spare held 28 v d p) : ∃ k : Ky, v = .agg (kc k) ∧ kw k := by
  obtain ⟨cs, rfl, _⟩ := okWide_struct Try.underlying28 hv
  obtain ⟨fuel, hf⟩ := h
  obtain ⟨k, e, hk⟩ := read_key hf
  refine ⟨k, ?_, hk⟩
  congr 1
  exact Array.toList_inj.1 (by simpa [Value.cells] using e)
theorem own : ownKnob Try.prog.godebug = none := by kernel_rfl
end Go.Proofs.Ytjeddgjndpdhoaa
