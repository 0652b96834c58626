/-
  HeapActs returns true for every limit and every list of calls, and leaves its arguments as they were; condition: what comes in holds at most 1048576 values, each counted each time it is reached.
-/
import Derived.Test.YtndjoklinccfjaaRows
import Derived.Test.YtndjoklinccfjaaActsM
import Derived.WalkKit
import Derived.ProofKit
import Derived.OpenShut
import Derived.Below
import Derived.JoinedCond
import Derived.Lib.SmallJoins
import Derived.Deep.SlicePairs
namespace Go.Proofs.Ytndjoklinccfjaa.heapActs
open Go.ChangeShapes Go.WideShapes Go.ChangeAt Go.RowKit Go.Joins Go.Deep
set_option linter.unusedVariables false

theorem own : ownKnob Try.prog.godebug = none := by kernel_rfl
theorem laidOut : laidOutB Try.prog = true := by kernel_rfl
theorem cells33 : Try.prog.cellsOf 33 = 10 := by kernel_rfl
theorem cells31 : Try.prog.cellsOf 31 = 1 := by kernel_rfl
theorem cells30 : Try.prog.cellsOf 30 = 2 := by kernel_rfl
theorem cells3 : Try.prog.cellsOf 3 = 1 := by kernel_rfl
theorem cells2 : Try.prog.cellsOf 2 = 1 := by kernel_rfl

theorem one_le {H : Type} (d : DataW H) : 1 ≤ Rows.uptoBulk d := by
  cases d with
  | lit l => cases l <;> simp [Rows.uptoBulk]
  | nil => simp [Rows.uptoBulk]
  | ptr d => simp [Rows.uptoBulk]
  | slice elems spare => simp [Rows.uptoBulk]
  | agg parts => simp [Rows.uptoBulk]
  | iface t d => simp [Rows.uptoBulk]
  | map entries => simp [Rows.uptoBulk]
  | held h => simp [Rows.uptoBulk]

theorem length_le {H : Type} (l : List (DataW H)) : l.length ≤ Rows.uptoBulkAll l := by
  induction l with
  | nil => simp [Rows.uptoBulkAll]
  | cons x r ih => have := one_le x; simp only [Rows.uptoBulkAll, List.length_cons]; omega

theorem flat_lies {w : World} {a : Addr} {len : Nat} {p q : Nat → Int} (h : ∀ i, i < len → w.cell? (a.add (i * 2)) = some (.int .i64 (p i)) ∧ w.cell? (a.add (i * 2 + 1)) = some (.int .i64 (q i))) :
    ∀ j u, (flat ((List.range len).map fun i => (p i, q i)))[j]? = some u → w.cell? (a.add j) = some u := by
  intro j u hj
  have hlt : j < len * 2 := by
    have := (List.getElem?_eq_some_iff.1 hj).1
    rw [flat_length] at this
    simpa using this
  have hi : j / 2 < len := by omega
  have hx : ((List.range len).map fun i => (p i, q i))[j / 2]? = some (p (j / 2), q (j / 2)) := by simp [hi]
  have ha := flat_at _ _ _ hx
  have hc := h (j / 2) hi
  rcases Nat.mod_two_eq_zero_or_one j with hm | hm
  · have e : j / 2 * 2 = j := by omega
    rw [e] at ha hc
    rw [ha.1] at hj
    injection hj with hj
    rw [← hj]
    exact hc.1
  · have e : j / 2 * 2 + 1 = j := by omega
    rw [e] at ha hc
    rw [ha.2] at hj
    injection hj with hj
    rw [← hj]
    exact hc.2

/-- A list of values that came in. -/
theorem read_vals {H : Type} {enc : TypeId × Value → H} {w : World} {spare : Nat → Bool} {held : Bool} {fuel : Nat} {v : Value} {x : DataW H × List MemPlace} (h : DataW.trod enc Try.prog w 0 spare held fuel 31 [v] = some x) :
    ∃ (a0 : Option Addr) (len cap : Nat) (xs : List (Int × Int)), v = .slice a0 len cap ∧ Src w.heap.size w a0 len cap xs ∧ len + 1 ≤ Rows.uptoBulk x.1 := by
  rcases open_slice_pairs Try.underlying31 Try.underlying30 cells30 rfl rfl cells3 cells2 h with ⟨e, rfl⟩ | ⟨a, len, cap, m, n, V0, V1, D0, D1, P0, P1, e, _, hl, hm, hmm, rfl, hc⟩
  · simp at e
    subst e
    exact ⟨none, 0, 0, [], rfl, ⟨rfl, fun _ => ⟨rfl, rfl⟩, fun _ h => by simp at h, fun h => by simp at h⟩, by simp [Rows.uptoBulk]⟩
  · simp at e
    subst e
    have hlm : len ≤ m := by rw [hmm]; split <;> omega
    have hv : ∀ i, i < len → w.cell? (a.add (i * 2)) = some (.int .i64 (intOf (V0 i))) ∧ w.cell? (a.add (i * 2 + 1)) = some (.int .i64 (intOf (V1 i))) := by
      intro i hi
      obtain ⟨h0, h1, h2, h3⟩ := hc i (by omega)
      obtain ⟨n0, e0, _, _⟩ := DataW.trod_int Try.underlying3 h2
      obtain ⟨n1, e1, _, _⟩ := DataW.trod_int Try.underlying2 h3
      simp at e0 e1
      rw [e0] at h0
      rw [e1] at h1
      exact ⟨by rw [h0, e0]; rfl, by rw [h1, e1]; rfl⟩
    refine ⟨some a, len, cap, (List.range len).map fun i => (intOf (V0 i), intOf (V1 i)), rfl, ⟨by simp, fun h => by simp at h, fun ad e hp => ?_, fun _ => ⟨_, rfl, flat_lies hv⟩⟩, ?_⟩
    · injection e with e
      subst e
      have h0 := (hv 0 hp).1
      have := World.block_lt_of_cell? w _ h0
      simpa [Addr.add] using this
    · have := length_le ((List.range len).map fun i => DataW.agg [D0 i, D1 i])
      simp only [Rows.uptoBulk]
      simp at this
      omega

/-- One value, of two cells. -/
theorem read_val {H : Type} {enc : TypeId × Value → H} {w : World} {spare : Nat → Bool} {held : Bool} {fuel : Nat} {v0 v1 : Value} {x : DataW H × List MemPlace} (h : DataW.trod enc Try.prog w 0 spare held fuel 30 [v0, v1] = some x) : ∃ p q, v0 = .int .i64 p ∧ v1 = .int .i64 q := by
  obtain ⟨y0, y1, n, _, _, h0, h1⟩ := trod_struct2 Try.underlying30 h
  simp [cells3, cells2] at h0 h1
  obtain ⟨p, e0, _, _⟩ := DataW.trod_int Try.underlying3 h0
  obtain ⟨q, e1, _, _⟩ := DataW.trod_int Try.underlying2 h1
  simp at e0 e1
  exact ⟨p, q, e0, e1⟩

/-- One call, of ten cells. -/
theorem read_act {H : Type} {enc : TypeId × Value → H} {w : World} {spare : Nat → Bool} {held : Bool} {fuel : Nat} {cs : List Value} {x : DataW H × List MemPlace} (h : DataW.trod enc Try.prog w 0 spare held fuel 33 cs = some x) :
    ∃ y : AR, cs = [.int .i64 y.d, .int .i64 y.vk, .int .i64 y.vn, .int .i64 y.wk, .int .i64 y.wn, .int .i64 y.xk, .int .i64 y.xn, .int .i64 y.rc, .int .i64 y.n, .slice y.a y.m y.c] ∧ (∃ xs, Src w.heap.size w y.a y.m y.c xs) ∧ y.m + 1 ≤ Rows.uptoBulk x.1 := by
  obtain ⟨xs, n, _, rfl, hl, hlen, hf⟩ := DataW.trod_struct Try.underlying33 h
  rw [cells33] at hl
  match cs, hl, xs, hlen with
  | [v0, v1, v2, v3, v4, v5, v6, v7, v8, v9], _, [y0, y1, y2, y3, y4, y5, y6], _ =>
    have g0 := hf 0 _ rfl
    have g1 := hf 1 _ rfl
    have g2 := hf 2 _ rfl
    have g3 := hf 3 _ rfl
    have g4 := hf 4 _ rfl
    have g5 := hf 5 _ rfl
    have g6 := hf 6 _ rfl
    simp [cells3, cells30, cells31] at g0 g1 g2 g3 g4 g5 g6
    obtain ⟨d, e0, _, _⟩ := DataW.trod_int Try.underlying3 g0
    obtain ⟨vk, vn, e1, e2⟩ := read_val g1
    obtain ⟨wk, wn, e3, e4⟩ := read_val g2
    obtain ⟨xk, xn, e5, e6⟩ := read_val g3
    obtain ⟨rc, e7, _, _⟩ := DataW.trod_int Try.underlying3 g4
    obtain ⟨n, e8, _, _⟩ := DataW.trod_int Try.underlying3 g5
    obtain ⟨a, m, c, xs, e9, hs, hb⟩ := read_vals g6
    simp at e0 e7 e8
    subst e0 e1 e2 e3 e4 e5 e6 e7 e8 e9
    refine ⟨⟨d, vk, vn, wk, wn, xk, xn, rc, n, a, m, c⟩, rfl, ⟨xs, hs⟩, ?_⟩
    simp only [List.map, Rows.uptoBulk, Rows.uptoBulkAll]
    omega

theorem tot_le {H : Type} : ∀ (L : List AR) (l : List (DataW H)), L.length = l.length → (∀ (i : Nat) (x : AR) (d : DataW H), L[i]? = some x → l[i]? = some d → x.m + 1 ≤ Rows.uptoBulk d) → tot L ≤ Rows.uptoBulkAll l
  | [], _, _, _ => by simp [tot]
  | x :: r, [], h, _ => by simp at h
  | x :: r, d :: l, h, k => by
      have h1 := tot_le r l (by simpa using h) (fun i y e hy he => k (i + 1) y e (by simpa using hy) (by simpa using he))
      have h2 := k 0 x d rfl rfl
      simp only [tot, Rows.uptoBulkAll]
      omega

theorem choose_lt {α : Type} {m : Nat} {p : Nat → α → Prop} (h : ∀ i, i < m → ∃ x, p i x) : ∃ l : List α, l.length = m ∧ ∀ (i : Nat) (x : α), l[i]? = some x → p i x := by
  induction m with
  | zero => exact ⟨[], rfl, fun i x hx => by simp at hx⟩
  | succ m ih =>
    obtain ⟨l, h1, h2⟩ := ih (fun i hi => h i (by omega))
    obtain ⟨x, hx⟩ := h m (by omega)
    refine ⟨l ++ [x], by simp [h1], fun i y hy => ?_⟩
    by_cases hi : i < l.length
    · rw [List.getElem?_append_left hi] at hy
      exact h2 i y hy
    · rw [List.getElem?_append_right (by omega)] at hy
      have h3 : i - l.length = 0 := by have := (List.getElem?_eq_some_iff.1 hy).1; simp at this; omega
      rw [h3] at hy
      simp at hy
      subst hy
      have : i = m := by omega
      subst this
      exact hx

/-- The list of calls that came in. -/
theorem read_acts {H : Type} {enc : TypeId × Value → H} {w : World} {spare : Nat → Bool} {held : Bool} {fuel : Nat} {v : Value} {x : DataW H × List MemPlace} (h : DataW.trod enc Try.prog w 0 spare held fuel 22 [v] = some x) :
    ∃ (a0 : Option Addr) (len cap : Nat) (L : List AR), v = .slice a0 len cap ∧ L.length = len ∧ ActsAt w.heap.size w a0 L ∧ (∀ (i : Nat) (y : AR), L[i]? = some y → ∃ xs, Src w.heap.size w y.a y.m y.c xs) ∧ tot L ≤ Rows.uptoBulk x.1 := by
  rcases open_slice Try.underlying22 h with ⟨e, rfl⟩ | ⟨a, len, cap, m, n, D, Pl, e, _, hl, hm, hmm, rfl, hc⟩
  · simp at e
    subst e
    exact ⟨none, 0, 0, [], rfl, rfl, fun i x hx => by simp at hx, fun i x hx => by simp at hx, by simp [tot]⟩
  · simp at e
    subst e
    have hlm : len ≤ m := by rw [hmm]; split <;> omega
    rw [cells33] at hc
    have each : ∀ i, i < len → ∃ y : AR, (∀ j, j < 10 → w.cell? (a.add (i * 10 + j)) = [Value.int .i64 y.d, .int .i64 y.vk, .int .i64 y.vn, .int .i64 y.wk, .int .i64 y.wn, .int .i64 y.xk, .int .i64 y.xn, .int .i64 y.rc, .int .i64 y.n, .slice y.a y.m y.c][j]?) ∧ (∃ xs, Src w.heap.size w y.a y.m y.c xs) ∧ y.m + 1 ≤ Rows.uptoBulk (D i) := by
      intro i hi
      obtain ⟨cs', h1, h2⟩ := hc i (by omega)
      obtain ⟨_, hlen, hcell⟩ := World.cells?_some h1
      obtain ⟨y, rfl, hs, hb⟩ := read_act h2
      refine ⟨y, fun j hj => ?_, hs, hb⟩
      have := hcell j hj
      rwa [add_add] at this
    obtain ⟨L, hL, hp⟩ := choose_lt each
    refine ⟨some a, len, cap, L, rfl, hL, ?_, fun i y hy => (hp i y hy).2.1, ?_⟩
    · intro i y hy
      obtain ⟨hcl, _, _⟩ := hp i y hy
      have hc0 := hcl 0 (by omega)
      obtain ⟨b, off, spot⟩ := a
      have hspot : spot = none := by
        by_cases hi : i = 0
        · subst hi
          simpa [Addr.add] using World.cell?_spot hc0
        · have h0 : 0 < L.length := by have := (List.getElem?_eq_some_iff.1 hy).1; omega
          have := (hp 0 L[0] (List.getElem?_eq_getElem h0)).1 0 (by omega)
          simpa [Addr.add] using World.cell?_spot this
      subst hspot
      have hadd : ∀ j, (Addr.mk b off none).add j = ⟨b, off + j, none⟩ := fun j => Addr.add_lit b off j
      simp only [hadd] at hcl
      have hblk : b < w.heap.size := by
        have := World.block_lt_of_cell? w _ (hcl 0 (by omega))
        simpa using this
      refine ⟨b, off, rfl, hblk, ?_⟩
      refine ⟨?_, ?_, ?_, ?_, ?_, ?_, ?_, ?_, ?_, ?_⟩
      · exact hcl 0 (by omega)
      · exact hcl 1 (by omega)
      · exact hcl 2 (by omega)
      · exact hcl 3 (by omega)
      · exact hcl 4 (by omega)
      · exact hcl 5 (by omega)
      · exact hcl 6 (by omega)
      · exact hcl 7 (by omega)
      · exact hcl 8 (by omega)
      · exact hcl 9 (by omega)
    · have := tot_le L ((List.range len).map D) (by simp [hL]) (fun i y d hy hd => by
        have hb := (hp i y hy).2.2
        have hi : i < len := by have := (List.getElem?_eq_some_iff.1 hy).1; omega
        simp [hi] at hd
        rw [← hd]
        exact hb)
      simp only [Rows.uptoBulk]
      omega

set_option maxRecDepth 100000 in
/-- What the walk gives, for arguments that hold so many values at the most. -/
theorem contract (H : Type) (enc : TypeId × Value → H) (W : World) (base : Nat) (args : Array Value) (ds gs : List (DataW H)) (before : List MemPlace)
    (hval : ∀ (j : Nat) t v, Try.f3.params[j]? = some t → args[j]? = some v → Value.okWide Try.prog W .any base t v)
    (hW : DataW.Whole enc Try.prog Try.f3.params.toList Rows.heapActsSpec.vars false W args.toList ds gs before) (hk : Rows.uptoSmall H (ds ++ gs) = true) :
    Calls Try.prog 3 args W fun e W' => ∃ v, e = .returned v ∧ Rows.heapActsSpec.post enc Try.prog Try.f3 false true false false W args v W' := by
  have hW' := hW
  obtain ⟨p, q, hA0, hV, rfl, hfz, hnd⟩ := hW
  have hA : DataW.TrodAll enc Try.prog W 0 (fun _ => true) true Try.f3.params.toList args.toList ds p := hA0
  rw [Try.params3] at hA hval
  obtain ⟨v0, vs0, d0, ds0, p0, q0, hargs, rfl, rfl, h0, r0⟩ := trodAll_cons hA
  obtain ⟨v1, vs1, d1, ds1, p1, q1, rfl, rfl, rfl, h1, r1⟩ := trodAll_cons r0
  obtain ⟨rfl, rfl, rfl⟩ := trodAll_nil r1
  obtain rfl : args = #[v0, v1] := by cases args; simp_all
  obtain ⟨rfl, rfl⟩ := trodVars_none hV
  have hb : Rows.uptoBulk d1 ≤ 1048576 := by
    have h := of_decide_eq_true hk
    simp only [List.append_nil, Rows.uptoBulkAll] at h
    omega
  obtain ⟨a0, rfl, rfl, rfl, w0⟩ := open_int Try.underlying3 (hval 0 3 v0 rfl rfl) h0
  obtain ⟨b1, len1, cap1, rfl⟩ := okWide_slice Try.underlying22 (hval 1 22 v1 rfl rfl)
  have k1 := h1
  have lt1 : ∀ x ∈ p1, x.block < W.heap.size := by obtain ⟨m, hm⟩ := k1; exact DataW.trod_lt m _ _ _ hm
  obtain ⟨fuel, hf⟩ := h1
  obtain ⟨b1', len1', cap1', L, e, hL, hat, hsrc, htot⟩ := read_acts (by simpa [Value.cells] using hf)
  injection e with e1 e2 e3
  subst e1 e2 e3
  clear hA0
  refine (acts_any a0 L W b1 len1 cap1 hL hat (by simp only at htot; omega) hsrc).mono fun e W' ⟨he, bel⟩ => ?_
  subst he
  exact ⟨_, rfl, _, _, _, [], _, [], hW', trodAll_mk1 (shut_bool Try.underlying4 _), (trodAll_cons_mk (shut_int Try.underlying3 w0) (trodAll_cons_mk (Below.trod laidOut (by kernel_rfl) (of_decide_eq_true (by kernel_rfl)) k1 bel lt1) trodAll_mk0)), rfl, bel.frame _, fun h => by cases h⟩

set_option maxRecDepth 100000 in
theorem lifted (os : Os) (started : os.Started) (H : Type) (enc : TypeId × Value → H) (F : Stop.Interp) :
    ReturnsInHanded {} Try.checked os 3 .any ((Rows.OpenSpec.upto Rows.heapActsSpec).pre6 enc Try.prog Try.f3 Rows.heapActsUptoRow.domain false) (((Rows.OpenSpec.upto Rows.heapActsSpec).at F).post enc Try.prog Try.f3 false true false false) := by
  refine returnsInHanded_of_cond (C := Try.checked) (s := Rows.OpenSpec.upto Rows.heapActsSpec) (k := Rows.uptoSmall) rfl own started (by kernel_rfl) Try.func3
    (OpenSpec.witness (enc := enc) (C := Try.checked) (s := Rows.OpenSpec.upto Rows.heapActsSpec) (k := Rows.uptoSmall) rfl false ⟨#[], #[.int .i64 0, .slice none 0 0], []⟩ 8 (by kernel_rfl) (by kernel_rfl) (by kernel_rfl)
      (x := ([.lit (.int .i64 0), .nil], [], [])) (by kernel_rfl) rfl (by kernel_rfl)) ?_
  intro W base args ds gs before hval hW _ hk _
  exact contract H enc W base args ds gs before hval hW hk

theorem over : Rows.heapActsUptoRow.holds Try.pinned (Rows.OpenSpec.upto Rows.heapActsSpec) :=
  OpenClaim.holds_of_cond 3 Try.f3 rfl rfl rfl rfl rfl rfl rfl ⟨rfl, rfl, rfl, rfl, rfl⟩ rfl rfl rfl rfl rfl (by kernel_rfl) Try.func3 (by kernel_rfl)
    (of_decide_eq_true (by kernel_rfl)) (by unfold Func.isWrapper; first | (rw [if_pos (by decide +kernel)]; kernel_rfl) | (rw [if_neg (by decide +kernel)]; exact ⟨rfl, rfl⟩))
    (fun os started H enc _ F => lifted os started H enc F)
end Go.Proofs.Ytndjoklinccfjaa.heapActs
namespace Go.Proofs.Ytndjoklinccfjaa
theorem heapActs_holds : Rows.HeapActsUptoSaid := heapActs.over
#print axioms heapActs_holds
end Go.Proofs.Ytndjoklinccfjaa
