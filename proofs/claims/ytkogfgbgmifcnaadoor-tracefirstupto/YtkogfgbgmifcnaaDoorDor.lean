/-
  What the rows' lists give: the table lies as the program's text lays it; how a trace and a number that come in are read; no condition.
-/
import Derived.Test.YtkogfgbgmifcnaaDoorTcD
import Derived.Test.YtkogfgbgmifcnaaDoorCards
import Derived.Test.YtkogfgbgmifcnaaDoorTie
import Derived.WalkKit
import Derived.ProofKit
import Derived.OpenShut
import Derived.Below
import Derived.Deep.DeepHandedRow
import Derived.Lib.LaidTab
import Derived.Stop.LaidErr
import Derived.ChangeMaps5
import Derived.LaidMore
import Derived.SevenTiedAt
import Derived.Deep.Slices
import Derived.Deep.Strs
import Derived.ChangeSlices
import Derived.SizedLaws
import Derived.Stop.Joined
import Derived.JoinedCond
import Derived.Lib.SmallJoins
namespace Go.Proofs.YtkogfgbgmifcnaaDoor
open Go.ChangeShapes Go.WideShapes Go.ChangeAt Go.RowKit Go.Deep
set_option linter.unusedVariables false
set_option linter.unusedSimpArgs false
set_option maxRecDepth 100000

theorem own : ownKnob Tryd.prog.godebug = none := by kernel_rfl
theorem cells33 : Tryd.prog.cellsOf 33 = 17 := by kernel_rfl
theorem cells48 : Tryd.prog.cellsOf 48 = 5 := by kernel_rfl
theorem cells57 : Tryd.prog.cellsOf 57 = 5 := by kernel_rfl
theorem cells59 : Tryd.prog.cellsOf 59 = 2 := by kernel_rfl
theorem cells27 : Tryd.prog.cellsOf 27 = 1 := by kernel_rfl
theorem cells28 : Tryd.prog.cellsOf 28 = 1 := by kernel_rfl
theorem cells29 : Tryd.prog.cellsOf 29 = 1 := by kernel_rfl
theorem cells30 : Tryd.prog.cellsOf 30 = 1 := by kernel_rfl
theorem cells31 : Tryd.prog.cellsOf 31 = 1 := by kernel_rfl
def laidL : List (String × DataW Unit) := Rows.traceKindsRow.laid
def nmF : String := ((laidL.map Prod.fst)[0]?).getD ""
theorem gF : Tryd.prog.globalNamed nmF = some 0 := by kernel_rfl
theorem gFT : (Tryd.prog.globals[0]?).map (·.type) = some 95 := by kernel_rfl
theorem cells95 : Tryd.prog.cellsOf 95 = 144 := by kernel_rfl
theorem cells61 : Tryd.prog.cellsOf 61 = 4 := by kernel_rfl
theorem cells9 : Tryd.prog.cellsOf 9 = 1 := by kernel_rfl
theorem cells4 : Tryd.prog.cellsOf 4 = 1 := by kernel_rfl
def W64 (z : Int) : Prop := (Lit.int .i64 z).wf = true
def rowData {H : Type} (r : OR) : DataW H := .agg [.lit (.string r.nm), .lit (.int .i64 r.ar), .lit (.bool r.mkv), .lit (.bool r.myv)]
theorem laid_list : laidL = [(nmF, .agg (rowsL.map rowData))] := by kernel_rfl
theorem choose_lt {α : Type} {m : Nat} {p : Nat → α → Prop} (h : ∀ i, i < m → ∃ x, p i x) : ∃ l : List α, l.length = m ∧ ∀ (i : Nat) (x : α), l[i]? = some x → p i x := by
  induction m with
  | zero => exact ⟨[], rfl, fun i x hx => by simp at hx⟩
  | succ m ih =>
    obtain ⟨l, h1, h2⟩ := ih (fun i hi => h i (by omega))
    obtain ⟨x, hx⟩ := h m (by omega)
    refine ⟨l ++ [x], by simp [h1], fun i y hy => ?_⟩
    by_cases hi : i < l.length
    · rw [List.getElem?_append_left hi] at hy
      exact h2 i y hy
    · rw [List.getElem?_append_right (by omega)] at hy
      have h3 : i - l.length = 0 := by have := (List.getElem?_eq_some_iff.1 hy).1; simp at this; omega
      rw [h3] at hy
      simp at hy
      subst hy
      have h4 : i = m := by omega
      rw [h4]
      exact hx
theorem add_add (a : Addr) (i j : Nat) : (a.add i).add j = a.add (i + j) := by
  by_cases hi : i = 0 <;> by_cases hj : j = 0 <;> simp [Addr.add, hi, hj, Nat.add_assoc]
theorem one_le {H : Type} (d : DataW H) : 1 ≤ Rows.uptoBulk d := by
  cases d with
  | lit l => cases l <;> simp [Rows.uptoBulk]
  | nil => simp [Rows.uptoBulk]
  | ptr d => simp [Rows.uptoBulk]
  | slice elems spare => simp [Rows.uptoBulk]
  | agg parts => simp [Rows.uptoBulk]
  | iface t d => simp [Rows.uptoBulk]
  | map entries => simp [Rows.uptoBulk]
  | held h => simp [Rows.uptoBulk]
theorem sum_bulk {H α : Type} {cost : α → Nat} : ∀ (L : List α) (D : List (DataW H × List MemPlace)), L.length = D.length → (∀ (i : Nat) (y : α) (d : DataW H × List MemPlace), L[i]? = some y → D[i]? = some d → cost y ≤ Rows.uptoBulk d.1) → (L.map cost).sum ≤ Rows.uptoBulkAll (D.map (·.1))
  | [], D, _, h => by simp
  | x :: r, [], hl, h => by simp at hl
  | x :: r, d :: D, hl, h => by
    have h0 := h 0 x d rfl rfl
    have ih := sum_bulk r D (by simpa using hl) (fun i y e hy he => h (i + 1) y e (by simpa using hy) (by simpa using he))
    simp only [List.map_cons, List.sum_cons, Rows.uptoBulkAll]
    omega
/-- Cells in a row that came in, but for their size. -/
def SLr (w : World) (e : TypeId) (a : Option Addr) (n c m : Nat) (xs : List Value) : Prop := ∀ y, n * y ≤ 140737488355328 → SL w w.heap.size e a n c m y xs
theorem flat_cell {α : Type} {f : α → List Value} {m : Nat} (hm : 0 < m) {L : List α} (hf : ∀ x ∈ L, (f x).length = m) {j : Nat} {u : Value} (h : (L.flatMap f)[j]? = some u) : ∃ x, L[j / m]? = some x ∧ (f x)[j % m]? = some u := by
  have hl := flat_len hf
  have hj : j < L.length * m := by rw [← hl]; exact (List.getElem?_eq_some_iff.1 h).1
  have hd : j / m < L.length := (Nat.div_lt_iff_lt_mul hm).2 hj
  have hx : L[j / m]? = some L[j / m] := List.getElem?_eq_getElem hd
  refine ⟨_, hx, ?_⟩
  rw [← flat_at hf hx (j % m) (Nat.mod_lt _ hm), Nat.div_add_mod' j m]
  exact h
section
variable {H : Type} {enc : TypeId × Value → H} {w : World} {spare : Nat → Bool} {held : Bool} {fuel : Nat} {x : DataW H × List MemPlace}
/-- A list that came in, of whatever elements of m cells. -/
theorem read_listB {α : Type} {t e : TypeId} {m : Nat} (hm : 0 < m) (he : roT e = true) (ht : Tryd.prog.underlying t = some (.slice e)) (hce : Tryd.prog.cellsOf e = m) (f : α → List Value) (p : α → Prop) (cost : α → Nat) (hf : ∀ y, p y → (f y).length = m)
    (rd : ∀ {fuel : Nat} {cs : List Value} {x : DataW H × List MemPlace}, DataW.trod enc Tryd.prog w 0 spare held fuel e cs = some x → ∃ y, cs = f y ∧ p y ∧ cost y ≤ Rows.uptoBulk x.1) {v : Value} (h : DataW.trod enc Tryd.prog w 0 spare held fuel t [v] = some x) :
    ∃ (a : Option Addr) (cap : Nat) (L : List α), v = .slice a L.length cap ∧ (∀ y ∈ L, p y) ∧ SLr w e a L.length cap m (L.flatMap f) ∧ (L.map cost).sum + 1 ≤ Rows.uptoBulk x.1 := by
  rcases DataW.trod_slice ht h with ⟨e1, rfl⟩ | ⟨a, len, cap, elems, rest, n, _, e1, rfl, _, hlc, hcm, hel, hc, _, _⟩
  · simp at e1
    subst e1
    exact ⟨none, 0, [], rfl, by simp, fun y _ => SL.nil _ _ _ _ he, by simp [Rows.uptoBulk]⟩
  · simp at e1
    subst e1
    have each : ∀ i, i < len → ∃ y : α, (∀ (j : Nat) (u : Value), (f y)[j]? = some u → w.cell? (a.add (i * m + j)) = some u) ∧ p y ∧ ∀ d, elems[i]? = some d → cost y ≤ Rows.uptoBulk d.1 := by
      intro i hi
      have h0 := hc i hi
      rw [List.getElem?_eq_getElem (by omega), hce] at h0
      obtain ⟨cs', h1, h2⟩ := Option.bind_eq_some_iff.1 h0
      obtain ⟨_, hlen, hcell⟩ := World.cells?_some h1
      obtain ⟨y, rfl, hp, hcost⟩ := rd h2
      refine ⟨y, fun j u hu => ?_, hp, fun d hd => ?_⟩
      · have hj : j < m := by have := (List.getElem?_eq_some_iff.1 hu).1; rw [hf y hp] at this; exact this
        have := hcell j hj
        rw [add_add] at this
        rw [this]; exact hu
      · rw [List.getElem?_eq_getElem (by omega)] at hd
        cases hd
        exact hcost
    obtain ⟨L, hL, hp⟩ := choose_lt each
    have hpp : ∀ y ∈ L, p y := fun y hy => by
      obtain ⟨i, hi⟩ := List.getElem?_of_mem hy
      exact (hp i y hi).2.1
    refine ⟨some a, cap, L, by rw [hL], hpp, fun z hz => ?_, ?_⟩
    · refine ⟨he, flat_len (fun y hy => hf y (hpp y hy)), fun h => (by cases h), by omega, hz, fun j u hu => ?_⟩
      obtain ⟨y, hy, hyu⟩ := flat_cell hm (fun y hy => hf y (hpp y hy)) hu
      have hcl := (hp _ y hy).1 _ _ hyu
      rw [Nat.div_add_mod' j m] at hcl
      have hl0 : 0 < L.length := Nat.lt_of_le_of_lt (Nat.zero_le _) (List.getElem?_eq_some_iff.1 hy).1
      have hq0 : L[0]? = some L[0] := List.getElem?_eq_getElem hl0
      have hs := (hp 0 L[0] hq0).1 0 _ (List.getElem?_eq_getElem (by rw [hf _ (hpp _ (List.mem_of_getElem? hq0))]; exact hm))
      obtain ⟨b, off, spot⟩ := a
      have hspot : spot = none := by simpa [Addr.add] using World.cell?_spot hs
      subst hspot
      rw [Addr.add_lit] at hcl
      exact ⟨b, off, rfl, hcl, .inl (World.block_lt_of_cell? w _ hcl)⟩
    · have := sum_bulk (cost := cost) L elems (by omega) (fun i y d hy hd => (hp i y hy).2.2 d hd)
      simp only [Rows.uptoBulk]
      omega
theorem read_int1 {cs : List Value} (h : DataW.trod enc Tryd.prog w 0 spare held fuel 3 cs = some x) : ∃ n : Int, cs = [.int .i64 n] ∧ W64 n ∧ 1 ≤ Rows.uptoBulk x.1 := by
  obtain ⟨n, e, _, hw⟩ := DataW.trod_int Tryd.underlying3 h
  exact ⟨n, e, hw, one_le _⟩
theorem read_ints {v : Value} (h : DataW.trod enc Tryd.prog w 0 spare held fuel 27 [v] = some x) : ∃ (a : Option Addr) (cap : Nat) (L : List Int), v = .slice a L.length cap ∧ (∀ y ∈ L, W64 y) ∧ SLr w 3 a L.length cap 1 (L.map (Value.int .i64)) ∧ L.length + 1 ≤ Rows.uptoBulk x.1 := by
  obtain ⟨a, cap, L, h1, h2, h3, h4⟩ := read_listB (α := Int) (m := 1) (by omega) rfl Tryd.underlying27 cells3 (fun y => [.int .i64 y]) W64 (fun _ => 1) (fun _ _ => rfl) read_int1 h
  refine ⟨a, cap, L, h1, h2, ?_, ?_⟩
  · rw [show L.map (Value.int .i64) = L.flatMap (fun y => [.int .i64 y]) by clear h1 h2 h3 h4; induction L with | nil => rfl | cons x r ih => simp only [List.map_cons, List.flatMap_cons, ih]; rfl]
    exact h3
  · have : (L.map fun _ => 1).sum = L.length := by clear h1 h2 h3 h4; induction L with | nil => rfl | cons x r ih => simp [ih]; omega
    omega
/-- A value, of two cells. -/
theorem read_val {cs : List Value} (h : DataW.trod enc Tryd.prog w 0 spare held fuel 23 cs = some x) : ∃ p q, cs = [.int .i64 p, .int .i64 q] ∧ (Lit.int .i64 p).wf = true ∧ (Lit.int .i64 q).wf = true := by
  obtain ⟨xs, n, _, rfl, hl, hlen, hf⟩ := DataW.trod_struct Tryd.underlying23 h
  rw [cells23] at hl
  match cs, hl, xs, hlen with
  | [v0, v1], _, [y0, y1], _ =>
    have g0 := hf 0 _ rfl
    have g1 := hf 1 _ rfl
    simp [cells3, cells2] at g0 g1
    obtain ⟨p, e0, _, w0⟩ := DataW.trod_int Tryd.underlying3 g0
    obtain ⟨q, e1, _, w1⟩ := DataW.trod_int Tryd.underlying2 g1
    simp at e0 e1
    subst e0 e1
    exact ⟨p, q, rfl, w0, w1⟩
/-- A key, of ten cells. -/
theorem read_key {cs : List Value} (h : DataW.trod enc Tryd.prog w 0 spare held fuel 26 cs = some x) : ∃ k : Ky, cs = (kc k).toList ∧ kw k := by
  obtain ⟨xs, n, _, rfl, hl, hlen, hf⟩ := DataW.trod_struct Tryd.underlying26 h
  rw [cells26] at hl
  match cs, hl, xs, hlen with
  | [v0, v1, v2, v3, v4, v5, v6, v7, v8, v9], _, [y0, y1, y2], _ =>
    have g0 := hf 0 _ rfl
    have g1 := hf 1 _ rfl
    have g2 := hf 2 _ rfl
    simp [cells3, cells24] at g0 g1 g2
    obtain ⟨a, e0, _, w0⟩ := DataW.trod_int Tryd.underlying3 g0
    obtain ⟨b, e1, _, w1⟩ := DataW.trod_int Tryd.underlying3 g1
    obtain ⟨zs, m, _, _, _, hz, hi⟩ := DataW.trod_array Tryd.underlying24 g2
    have q0 := hi 0 (by omega)
    have q1 := hi 1 (by omega)
    have q2 := hi 2 (by omega)
    have q3 := hi 3 (by omega)
    rw [List.getElem?_eq_getElem (by omega)] at q0 q1 q2 q3
    simp [cells23] at q0 q1 q2 q3
    obtain ⟨c, d, e2, w2, w3⟩ := read_val q0
    obtain ⟨e, f, e3, w4, w5⟩ := read_val q1
    obtain ⟨g, h', e4, w6, w7⟩ := read_val q2
    obtain ⟨i, j, e5, w8, w9⟩ := read_val q3
    simp at e0 e1 e2 e3 e4 e5
    obtain ⟨rfl, rfl⟩ := e2
    obtain ⟨rfl, rfl⟩ := e3
    obtain ⟨rfl, rfl⟩ := e4
    obtain ⟨rfl, rfl⟩ := e5
    subst e0 e1
    refine ⟨(a, b, c, d, e, f, g, h', i, j), rfl, ?_⟩
    intro y hy
    simp only [kl0, List.mem_cons, List.not_mem_nil, or_false] at hy
    rcases hy with rfl | rfl | rfl | rfl | rfl | rfl | rfl | rfl | rfl | rfl <;> assumption
/-- A source, of four cells. -/
theorem read_src {cs : List Value} (h : DataW.trod enc Tryd.prog w 0 spare held fuel 51 cs = some x) : ∃ s : Sr, cs = s.cl ∧ s.w ∧ 1 ≤ Rows.uptoBulk x.1 := by
  obtain ⟨xs, n, _, rfl, hl, hlen, hf⟩ := DataW.trod_struct Tryd.underlying51 h
  rw [cells51] at hl
  match cs, hl, xs, hlen with
  | [v0, v1, v2, v3], _, [y0, y1, y2], _ =>
    have g0 := hf 0 _ rfl
    have g1 := hf 1 _ rfl
    have g2 := hf 2 _ rfl
    simp [cells3, cells23] at g0 g1 g2
    obtain ⟨a, e0, _, w0⟩ := DataW.trod_int Tryd.underlying3 g0
    obtain ⟨b, c, e1, w1, w2⟩ := read_val g1
    obtain ⟨d, e2, _, w3⟩ := DataW.trod_int Tryd.underlying3 g2
    simp at e0 e1 e2
    obtain ⟨rfl, rfl⟩ := e1
    subst e0 e2
    refine ⟨⟨a, b, c, d⟩, rfl, ?_, one_le _⟩
    intro y hy
    simp only [Sr.il, List.mem_cons, List.not_mem_nil, or_false] at hy
    rcases hy with rfl | rfl | rfl | rfl <;> assumption
theorem read_srcs {v : Value} (h : DataW.trod enc Tryd.prog w 0 spare held fuel 31 [v] = some x) : ∃ (a : Option Addr) (cap : Nat) (L : List Sr), v = .slice a L.length cap ∧ (∀ y ∈ L, y.w) ∧ SLr w 51 a L.length cap 4 (flatS L) ∧ L.length + 1 ≤ Rows.uptoBulk x.1 := by
  obtain ⟨a, cap, L, h1, h2, h3, h4⟩ := read_listB (α := Sr) (m := 4) (by omega) rfl Tryd.underlying31 cells51 Sr.cl Sr.w (fun _ => 1) (fun _ _ => rfl) read_src h
  refine ⟨a, cap, L, h1, h2, h3, ?_⟩
  have : (L.map fun _ => 1).sum = L.length := by clear h1 h2 h3 h4; induction L with | nil => rfl | cons x r ih => simp [ih]; omega
  omega
/-- What is known of an element that came in. -/
structure ElR (w : World) (np nq : Nat) (y : El) : Prop where
  hp : y.p.length = np
  hq : y.q.length = nq
  sw : ∀ s ∈ y.l, s.w
  sl : SLr w 51 y.a y.l.length y.c 4 (flatS y.l)
def costE (y : El) : Nat := y.l.length + 1
theorem ElR.len {w : World} {np nq : Nat} {y : El} (h : ElR w np nq y) : y.cl.length = np + 1 + nq := by simp [El.cl, h.hp, h.hq]; omega
theorem read_op {cs : List Value} (h : DataW.trod enc Tryd.prog w 0 spare held fuel 48 cs = some x) : ∃ y : El, cs = y.cl ∧ ElR w 1 3 y ∧ costE y ≤ Rows.uptoBulk x.1 := by
  obtain ⟨xs, n, _, rfl, hl, hlen, hf⟩ := DataW.trod_struct Tryd.underlying48 h
  rw [cells48] at hl
  match cs, hl, xs, hlen with
  | [v0, v1, v2, v3, v4], _, [y0, y1, y2, y3, y4], _ =>
    have g0 := hf 0 _ rfl
    have g1 := hf 1 _ rfl
    have g2 := hf 2 _ rfl
    have g3 := hf 3 _ rfl
    have g4 := hf 4 _ rfl
    simp [cells3, cells2, cells31] at g0 g1 g2 g3 g4
    obtain ⟨d0, e0, _, _⟩ := DataW.trod_int Tryd.underlying3 g0
    obtain ⟨a, c, L, e1, hw, hs, hb⟩ := read_srcs g1
    obtain ⟨d2, e2, _, _⟩ := DataW.trod_int Tryd.underlying2 g2
    obtain ⟨d3, e3, _, _⟩ := DataW.trod_int Tryd.underlying3 g3
    obtain ⟨d4, e4, _, _⟩ := DataW.trod_int Tryd.underlying3 g4
    simp at e0 e2 e3 e4
    subst e0 e1 e2 e3 e4
    refine ⟨⟨[d0], [d2, d3, d4], a, c, L⟩, rfl, ⟨rfl, rfl, hw, hs⟩, ?_⟩
    simp only [List.map, Rows.uptoBulk, Rows.uptoBulkAll, costE]
    omega
theorem read_link {cs : List Value} (h : DataW.trod enc Tryd.prog w 0 spare held fuel 57 cs = some x) : ∃ y : El, cs = y.cl ∧ ElR w 4 0 y ∧ costE y ≤ Rows.uptoBulk x.1 := by
  obtain ⟨xs, n, _, rfl, hl, hlen, hf⟩ := DataW.trod_struct Tryd.underlying57 h
  rw [cells57] at hl
  match cs, hl, xs, hlen with
  | [v0, v1, v2, v3, v4], _, [y0, y1, y2, y3, y4], _ =>
    have g0 := hf 0 _ rfl
    have g1 := hf 1 _ rfl
    have g2 := hf 2 _ rfl
    have g3 := hf 3 _ rfl
    have g4 := hf 4 _ rfl
    simp [cells3, cells31] at g0 g1 g2 g3 g4
    obtain ⟨d0, e0, _, _⟩ := DataW.trod_int Tryd.underlying3 g0
    obtain ⟨d1, e1, _, _⟩ := DataW.trod_int Tryd.underlying3 g1
    obtain ⟨d2, e2, _, _⟩ := DataW.trod_int Tryd.underlying3 g2
    obtain ⟨d3, e3, _, _⟩ := DataW.trod_int Tryd.underlying3 g3
    obtain ⟨a, c, L, e4, hw, hs, hb⟩ := read_srcs g4
    simp at e0 e1 e2 e3
    subst e0 e1 e2 e3 e4
    refine ⟨⟨[d0, d1, d2, d3], [], a, c, L⟩, rfl, ⟨rfl, rfl, hw, hs⟩, ?_⟩
    simp only [List.map, Rows.uptoBulk, Rows.uptoBulkAll, costE]
    omega
theorem read_virt {cs : List Value} (h : DataW.trod enc Tryd.prog w 0 spare held fuel 59 cs = some x) : ∃ y : El, cs = y.cl ∧ ElR w 1 0 y ∧ costE y ≤ Rows.uptoBulk x.1 := by
  obtain ⟨xs, n, _, rfl, hl, hlen, hf⟩ := DataW.trod_struct Tryd.underlying59 h
  rw [cells59] at hl
  match cs, hl, xs, hlen with
  | [v0, v1], _, [y0, y1], _ =>
    have g0 := hf 0 _ rfl
    have g1 := hf 1 _ rfl
    simp [cells3, cells31] at g0 g1
    obtain ⟨d0, e0, _, _⟩ := DataW.trod_int Tryd.underlying3 g0
    obtain ⟨a, c, L, e1, hw, hs, hb⟩ := read_srcs g1
    simp at e0
    subst e0 e1
    refine ⟨⟨[d0], [], a, c, L⟩, rfl, ⟨rfl, rfl, hw, hs⟩, ?_⟩
    simp only [List.map, Rows.uptoBulk, Rows.uptoBulkAll, costE]
    omega
/-- What is known of a trace that came in. -/
structure TrR (w : World) (t : Tr) : Prop where
  k : kw t.k
  ins : SLr w 3 t.ia t.ins.length t.ic 1 (t.ins.map (Value.int .i64))
  ops : SLr w 48 t.oa t.ops.length t.oc 5 (flatE t.ops)
  opl : ∀ e ∈ t.ops, ElR w 1 3 e
  links : SLr w 57 t.la t.links.length t.lc 5 (flatE t.links)
  linkl : ∀ e ∈ t.links, ElR w 4 0 e
  virts : SLr w 59 t.va t.virts.length t.vc 2 (flatE t.virts)
  virtl : ∀ e ∈ t.virts, ElR w 1 0 e
  back : SLr w 51 t.ba t.back.length t.bc 4 (flatS t.back)
  bw : ∀ s ∈ t.back, s.w
def costT (t : Tr) : Nat := t.ins.length + (t.ops.map costE).sum + (t.links.map costE).sum + (t.virts.map costE).sum + t.back.length + 1
theorem read_trace {cs : List Value} (h : DataW.trod enc Tryd.prog w 0 spare held fuel 33 cs = some x) : ∃ t : Tr, cs = t.cl ∧ TrR w t ∧ costT t ≤ Rows.uptoBulk x.1 := by
  obtain ⟨xs, n, _, rfl, hl, hlen, hf⟩ := DataW.trod_struct Tryd.underlying33 h
  rw [cells33] at hl
  match cs, hl, xs, hlen with
  | [v0, v1, v2, v3, v4, v5, v6, v7, v8, v9, v10, v11, v12, v13, v14, v15, v16], _, [y0, y1, y2, y3, y4, y5, y6, y7], _ =>
    have g0 := hf 0 _ rfl
    have g1 := hf 1 _ rfl
    have g2 := hf 2 _ rfl
    have g3 := hf 3 _ rfl
    have g4 := hf 4 _ rfl
    have g5 := hf 5 _ rfl
    have g6 := hf 6 _ rfl
    have g7 := hf 7 _ rfl
    simp [cells3, cells26, cells27, cells28, cells29, cells30, cells31] at g0 g1 g2 g3 g4 g5 g6 g7
    obtain ⟨k, e0, hk⟩ := read_key g0
    obtain ⟨d1, e1, _, _⟩ := DataW.trod_int Tryd.underlying3 g1
    obtain ⟨d2, e2, _, _⟩ := DataW.trod_int Tryd.underlying3 g2
    obtain ⟨ia, ic, ins, e3, _, s3, b3⟩ := read_ints g3
    obtain ⟨oa, oc, ops, e4, p4, s4, b4⟩ := read_listB (α := El) (m := 5) (by omega) rfl Tryd.underlying28 cells48 El.cl (ElR w 1 3) costE (fun y hy => hy.len) read_op g4
    obtain ⟨la, lc, links, e5, p5, s5, b5⟩ := read_listB (α := El) (m := 5) (by omega) rfl Tryd.underlying29 cells57 El.cl (ElR w 4 0) costE (fun y hy => hy.len) read_link g5
    obtain ⟨va, vc, virts, e6, p6, s6, b6⟩ := read_listB (α := El) (m := 2) (by omega) rfl Tryd.underlying30 cells59 El.cl (ElR w 1 0) costE (fun y hy => hy.len) read_virt g6
    obtain ⟨ba, bc, back, e7, p7, s7, b7⟩ := read_srcs g7
    simp at e1 e2
    subst e1 e2 e3 e4 e5 e6 e7
    refine ⟨⟨k, d1, d2, ia, ic, ins, oa, oc, ops, la, lc, links, va, vc, virts, ba, bc, back⟩, ?_, ⟨hk, s3, s4, p4, s5, p5, s6, p6, s7, p7⟩, ?_⟩
    · obtain ⟨a, b, c, d, e, f, g, h', i, j⟩ := k
      simp [kc, kl0] at e0
      obtain ⟨rfl, rfl, rfl, rfl, rfl, rfl, rfl, rfl, rfl, rfl⟩ := e0
      rfl
    · simp only [List.map, Rows.uptoBulk, Rows.uptoBulkAll, costT]
      omega
end
theorem costE_len (L : List El) : L.length ≤ (L.map costE).sum := by
  induction L with
  | nil => simp
  | cons x r ih => simp only [List.map_cons, List.sum_cons, List.length_cons, costE]; omega
theorem costE_mem {L : List El} {y : El} (h : y ∈ L) : y.l.length ≤ (L.map costE).sum := by
  induction L with
  | nil => cases h
  | cons x r ih =>
    simp only [List.map_cons, List.sum_cons]
    rcases List.mem_cons.1 h with rfl | h
    · unfold costE; omega
    · have := ih h; omega
/-- A trace that came in lies as told, where it holds little. -/
theorem TrR.ok {w : World} {t : Tr} (h : TrR w t) (hc : costT t ≤ 1048576) : TrOk w w.heap.size t := by
  unfold costT at hc
  have h1 := costE_len t.ops
  have h2 := costE_len t.links
  have h3 := costE_len t.virts
  refine ⟨h.ins _ (by omega), h.ops _ (by omega), fun e he => ?_, h.links _ (by omega), fun e he => ?_, h.virts _ (by omega), fun e he => ?_, h.back _ (by omega)⟩
  · have := costE_mem he; exact ⟨(h.opl e he).hp, (h.opl e he).hq, (h.opl e he).sl _ (by omega)⟩
  · have := costE_mem he; exact ⟨(h.linkl e he).hp, (h.linkl e he).hq, (h.linkl e he).sl _ (by omega)⟩
  · have := costE_mem he; exact ⟨(h.virtl e he).hp, (h.virtl e he).hq, (h.virtl e he).sl _ (by omega)⟩
theorem TrR.at {w : World} {t : Tr} (h : TrR w t) : ATOk t.abs := by
  refine ⟨h.k, h.bw, fun e he => ?_, fun e he => ?_, fun e he => ?_⟩
  · obtain ⟨y, hy, rfl⟩ := List.mem_map.1 he; exact (h.opl y hy).sw
  · obtain ⟨y, hy, rfl⟩ := List.mem_map.1 he; exact (h.linkl y hy).sw
  · obtain ⟨y, hy, rfl⟩ := List.mem_map.1 he; exact (h.virtl y hy).sw
theorem trace_form {H : Type} {enc : TypeId × Value → H} {w w' : World} {r} {base : Nat} {spare : Nat → Bool} {held : Bool} {fuel : Nat} {v : Value} {x : DataW H × List MemPlace} (hv : Value.okWide Tryd.prog w' r base 33 v) (h : DataW.trod enc Tryd.prog w 0 spare held fuel 33 v.cells.toList = some x) :
    ∃ t : Tr, v = .agg t.arr ∧ TrR w t ∧ costT t ≤ Rows.uptoBulk x.1 := by
  obtain ⟨cs, rfl, _⟩ := okWide_struct Tryd.underlying33 hv
  obtain ⟨t, e, ht⟩ := read_trace h
  refine ⟨t, ?_, ht⟩
  congr 1
  exact Array.toList_inj.1 (by simpa [Value.cells, Tr.arr] using e)
theorem row_cells {H : Type} {enc : TypeId × Value → H} {w : World} {base : Nat} {sp : Nat → Bool} {held : Bool} {fuel : Nat} {cs : List Value} {r : OR} {x : DataW H × List MemPlace} (h : DataW.trod enc Tryd.prog w base sp held fuel 61 cs = some x) (hx : x.1 = rowData r) : cs = r.cl := by
  obtain ⟨y0, y1, y2, y3, n, rfl, hl, g0, g1, g2, g3⟩ := Go.Joins.trod_struct4 Tryd.underlying61 h
  rw [cells61] at hl
  match cs, hl with
  | [v0, v1, v2, v3], _ =>
    simp [cells9, cells3, cells4] at g0 g1 g2 g3
    obtain ⟨s, e0, rfl, _⟩ := DataW.trod_string Tryd.underlying9 g0
    obtain ⟨a, e1, h1, _⟩ := DataW.trod_int Tryd.underlying3 g1
    obtain ⟨b, e2, rfl⟩ := DataW.trod_bool Tryd.underlying4 g2
    obtain ⟨c, e3, rfl⟩ := DataW.trod_bool Tryd.underlying4 g3
    subst h1
    simp at e0 e1 e2 e3
    simp [rowData] at hx
    obtain ⟨q0, q1, q2, q3⟩ := hx
    rw [e0, e1, e2, e3, OR.cl, txt, ← q0, ← q1, ← q2, ← q3]
theorem laid_cells {H : Type} {enc : TypeId × Value → H} {w : World} {base : Nat} {sp : Nat → Bool} {held : Bool} {fuel : Nat} {cs : List Value} {p : List MemPlace} (h : DataW.trod enc Tryd.prog w base sp held fuel 95 cs = some (.agg (rowsL.map rowData), p)) : ∀ (n : Nat) (u : Value), (rowsL.flatMap OR.cl)[n]? = some u → cs[n]? = some u := by
  obtain ⟨xs, m, _, hx, hl, hn, hi⟩ := DataW.trod_array Tryd.underlying95 h
  intro n u hu
  obtain ⟨r, hr, hc⟩ := flat_cell (f := OR.cl) (m := 4) (by omega) (fun _ _ => rfl) hu
  have hk : n / 4 < 36 := (List.getElem?_eq_some_iff.1 hr).1
  have g := hi (n / 4) hk
  rw [cells61, List.getElem?_eq_getElem (by omega)] at g
  have hxl : xs.map (·.1) = rowsL.map rowData := by
    have := congrArg Prod.fst hx
    simpa using this.symm
  have h1 : (xs.map (·.1))[n / 4]? = some (xs[n / 4]'(by omega)).1 := by simp [List.getElem?_eq_getElem (show n / 4 < xs.length by omega)]
  rw [hxl] at h1
  simp only [List.getElem?_map, hr, Option.map_some, Option.some.injEq] at h1
  have e := row_cells g h1.symm
  rw [← e] at hc
  rw [List.getElem?_take_of_lt (Nat.mod_lt _ (by omega)), List.getElem?_drop, Nat.div_add_mod' n 4] at hc
  exact hc
/-- What the rows' lists give. -/
theorem tabs {W : World} (h : laidMetH Tryd.prog laidL W) : Tab W := by
  have h' : laidMet Tryd.prog laidL W := h
  rw [laid_list] at h'
  obtain ⟨ps, ⟨g', t', cs, fuel, p, q, hg', ht', hvar, hd, _, _⟩, _⟩ := h'
  obtain rfl := Option.some.inj (gF.symm.trans hg')
  obtain rfl := Option.some.inj (gFT.symm.trans ht')
  have hc : ∀ (n : Nat) (u : Value), (rowsL.flatMap OR.cl)[n]? = some u → W.cell? ⟨0, n, none⟩ = some u := fun n u hu => by
    rw [World.var?_cell gF hvar n]
    have := laid_cells hd n u hu
    simpa using this
  exact ⟨hc, World.block_lt_of_cell? W _ (hc 0 _ rfl)⟩
/-- A world for the witness. -/
def lay (c : Array Value) : Obj → Obj
  | .cells _ t frozen => .cells c t frozen
  | o => o
def laidW (w : World) : World := { w with heap := w.heap.modify 0 (lay (rowsL.flatMap OR.cl).toArray) }
end Go.Proofs.YtkogfgbgmifcnaaDoor
