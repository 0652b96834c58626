/-
  What the rows' lists give: the tables lie as the library's text lays them; how lists of things and values that come in are read; no condition.
-/
import Derived.Test.YtefkcmeeagflmaaDoorMgDNND
import Derived.Test.YtefkcmeeagflmaaDoorCards
import Derived.Test.YtefkcmeeagflmaaDoorTie
import Derived.WalkKit
import Derived.ProofKit
import Derived.OpenShut
import Derived.Deep.DeepHandedRow
import Derived.Lib.LaidTab
import Derived.Stop.LaidErr
import Derived.ChangeMaps5
import Derived.LaidMore
import Derived.SevenTiedAt
import Derived.Deep.Slices
import Derived.Deep.SlicePairs
import Derived.Lib.SmallJoins
import Derived.JoinedCond
namespace Go.Proofs.YtefkcmeeagflmaaDoor
open Go.ChangeShapes Go.WideShapes Go.ChangeAt Go.RowKit Go.Joins Go.Deep
set_option linter.unusedVariables false
set_option linter.unusedSimpArgs false
set_option maxRecDepth 100000

theorem own : ownKnob Tryd.prog.godebug = none := by kernel_rfl
def laidL : List (String × DataW Unit) := Rows.isoSelfUptoRow.laid
def nmA : String := ((laidL.map Prod.fst)[0]?).getD ""
def nmD : String := ((laidL.map Prod.fst)[1]?).getD ""
theorem gA : Tryd.prog.globalNamed nmA = some 1 := by kernel_rfl
theorem gAT : (Tryd.prog.globals[1]?).map (·.type) = some 154 := by kernel_rfl
theorem gD : Tryd.prog.globalNamed nmD = some 2 := by kernel_rfl
theorem gDT : (Tryd.prog.globals[2]?).map (·.type) = some 155 := by kernel_rfl
theorem gPowT : (Tryd.prog.globals[0]?).map (·.type) = some 147 := by kernel_rfl
theorem under155 : Tryd.prog.underlying 155 = some (.array 64 5) := by kernel_rfl
theorem under5' : Tryd.prog.underlying 5 = some (.int .u8) := by kernel_rfl
theorem cells5 : Tryd.prog.cellsOf 5 = 1 := by kernel_rfl
theorem cells155 : Tryd.prog.cellsOf 155 = 64 := by kernel_rfl
theorem under147 : Tryd.prog.underlying 147 = some (.array 20 138) := by kernel_rfl
theorem under138 : Tryd.prog.underlying 138 = some (.int .u64) := by kernel_rfl
theorem cells147 : Tryd.prog.cellsOf 147 = 20 := by kernel_rfl
theorem cells138 : Tryd.prog.cellsOf 138 = 1 := by kernel_rfl
theorem cells45 : Tryd.prog.cellsOf 45 = 2 := by kernel_rfl
theorem cells41 : Tryd.prog.cellsOf 41 = 2 := by kernel_rfl
theorem cells23 : Tryd.prog.cellsOf 23 = 1 := by kernel_rfl
theorem cells3 : Tryd.prog.cellsOf 3 = 1 := by kernel_rfl
/-- The numbers of a table, as the row spells them. -/
def numsOf : DataW Unit → List Int
  | .agg l => l.map fun | .lit (.int _ n) => n | _ => 0
  | _ => []
def bitsA : List Int := numsOf Rows.laid_math_bits_deBruijn32tab
def bitsB : List Int := numsOf Rows.laid_math_bits_deBruijn64tab
theorem laid_list : laidL = [(nmA, Lib.tabData .u8 bitsA), (nmD, Lib.tabData .u8 bitsB), (pw10, Lib.tabData .u64 Lib.pow10Tab)] := by kernel_rfl

/-- What the rows' lists give. -/
theorem tabs {W : World} (h : laidMetH Tryd.prog laidL W) : Pw W := by
  have h' : laidMet Tryd.prog laidL W := h
  rw [laid_list] at h'
  have hB := Lib.tabIs_of_head gD gDT under155 under5' cells5 cells155 h'.tail
  have hP := Lib.tabIs_of_head gPow gPowT under147 under138 cells138 cells147 h'.tail.tail
  have hb := hB.cell gD 0 (by decide)
  exact ⟨hP, World.block_lt_of_cell? W _ hb⟩

/-- A world for the witness: the tables as their initialisers lay them. -/
noncomputable def laidW (w : World) : World :=
  { w with heap := ((w.heap.modify 0 fun | .cells _ t frozen => .cells (Lib.pow10Tab.map (Value.int .u64)).toArray t frozen | o => o).modify 1 fun | .cells _ t frozen => .cells (bitsA.map (Value.int .u8)).toArray t frozen | o => o).modify 2 fun | .cells _ t frozen => .cells (bitsB.map (Value.int .u8)).toArray t frozen | o => o }

theorem one_le {H : Type} (d : DataW H) : 1 ≤ Rows.uptoBulk d := by
  cases d with
  | lit l => cases l <;> simp [Rows.uptoBulk]
  | nil => simp [Rows.uptoBulk]
  | ptr d => simp [Rows.uptoBulk]
  | slice elems spare => simp [Rows.uptoBulk]
  | agg parts => simp [Rows.uptoBulk]
  | iface t d => simp [Rows.uptoBulk]
  | map entries => simp [Rows.uptoBulk]
  | held h => simp [Rows.uptoBulk]
theorem length_le {H : Type} (l : List (DataW H)) : l.length ≤ Rows.uptoBulkAll l := by
  induction l with
  | nil => simp [Rows.uptoBulkAll]
  | cons x r ih => have := one_le x; simp only [Rows.uptoBulkAll, List.length_cons]; omega

theorem flat_lies {w : World} {a : Addr} {len : Nat} {p q : Nat → Int} (h : ∀ i, i < len → w.cell? (a.add (i * 2)) = some (.int .i64 (p i)) ∧ w.cell? (a.add (i * 2 + 1)) = some (.int .i64 (q i))) :
    ∀ j u, (flat ((List.range len).map fun i => (p i, q i)))[j]? = some u → w.cell? (a.add j) = some u := by
  intro j u hj
  have hlt : j < len * 2 := by
    have := (List.getElem?_eq_some_iff.1 hj).1
    rw [flat_length] at this
    simpa using this
  have hi : j / 2 < len := by omega
  have hx : ((List.range len).map fun i => (p i, q i))[j / 2]? = some (p (j / 2), q (j / 2)) := by simp [hi]
  have ha := flat_at _ _ _ hx
  have hc := h (j / 2) hi
  rcases Nat.mod_two_eq_zero_or_one j with hm | hm
  · have e : j / 2 * 2 = j := by omega
    rw [e] at ha hc
    rw [ha.1] at hj
    injection hj with hj
    rw [← hj]
    exact hc.1
  · have e : j / 2 * 2 + 1 = j := by omega
    rw [e] at ha hc
    rw [ha.2] at hj
    injection hj with hj
    rw [← hj]
    exact hc.2

/-- A list of values that came in. -/
theorem read_vals {H : Type} {enc : TypeId × Value → H} {w : World} {spare : Nat → Bool} {held : Bool} {fuel : Nat} {v : Value} {x : DataW H × List MemPlace} (h : DataW.trod enc Tryd.prog w 0 spare held fuel 23 [v] = some x) :
    ∃ (a0 : Option Addr) (len cap : Nat) (xs : List (Int × Int)), v = .slice a0 len cap ∧ Src w.heap.size w a0 len cap xs ∧ len ≤ cap ∧ (∀ c, c ∈ xs → (Lit.int .i64 c.2).wf = true) ∧ len + 1 ≤ Rows.uptoBulk x.1 := by
  rcases open_slice_pairs Tryd.underlying23 Tryd.underlying45 cells45 rfl rfl cells3 cells2 h with ⟨e, rfl⟩ | ⟨a, len, cap, m, n, V0, V1, D0, D1, P0, P1, e, _, hl, hm, hmm, rfl, hc⟩
  · simp at e
    subst e
    exact ⟨none, 0, 0, [], rfl, ⟨rfl, fun _ => ⟨rfl, rfl⟩, fun _ h => by simp at h, fun h => by simp at h⟩, Nat.le_refl _, by simp, by simp [Rows.uptoBulk]⟩
  · simp at e
    subst e
    have hlm : len ≤ m := by rw [hmm]; split <;> omega
    have hv : ∀ i, i < len → (w.cell? (a.add (i * 2)) = some (.int .i64 (intOf (V0 i))) ∧ w.cell? (a.add (i * 2 + 1)) = some (.int .i64 (intOf (V1 i)))) ∧ (Lit.int .i64 (intOf (V1 i))).wf = true := by
      intro i hi
      obtain ⟨h0, h1, h2, h3⟩ := hc i (by omega)
      obtain ⟨n0, e0, _, _⟩ := DataW.trod_int Tryd.underlying3 h2
      obtain ⟨n1, e1, _, w1⟩ := DataW.trod_int Tryd.underlying2 h3
      simp at e0 e1
      rw [e0] at h0
      rw [e1] at h1
      exact ⟨⟨by rw [h0, e0]; rfl, by rw [h1, e1]; rfl⟩, by rw [e1]; exact w1⟩
    refine ⟨some a, len, cap, (List.range len).map fun i => (intOf (V0 i), intOf (V1 i)), rfl, ⟨by simp, fun h => by simp at h, fun ad e hp => ?_, fun _ => ⟨_, rfl, flat_lies (fun i hi => (hv i hi).1)⟩⟩, by omega, fun c hc' => ?_, ?_⟩
    · injection e with e
      subst e
      have h0 := (hv 0 hp).1.1
      have := World.block_lt_of_cell? w _ h0
      simpa [Addr.add] using this
    · simp only [List.mem_map, List.mem_range] at hc'
      obtain ⟨i, hi, rfl⟩ := hc'
      exact (hv i hi).2
    · have := length_le ((List.range len).map fun i => DataW.agg [D0 i, D1 i])
      simp only [Rows.uptoBulk]
      simp at this
      omega

/-- One value, of two cells. -/
theorem read_val {H : Type} {enc : TypeId × Value → H} {w : World} {spare : Nat → Bool} {held : Bool} {fuel : Nat} {cs : List Value} {x : DataW H × List MemPlace} (h : DataW.trod enc Tryd.prog w 0 spare held fuel 45 cs = some x) : ∃ p q, cs = [.int .i64 p, .int .i64 q] ∧ (Lit.int .i64 q).wf = true := by
  obtain ⟨xs, n, _, rfl, hl, hlen, hf⟩ := DataW.trod_struct Tryd.underlying45 h
  rw [cells45] at hl
  match cs, hl, xs, hlen with
  | [v0, v1], _, [y0, y1], _ =>
    have g0 := hf 0 _ rfl
    have g1 := hf 1 _ rfl
    simp [cells3, cells2] at g0 g1
    obtain ⟨p, e0, _, _⟩ := DataW.trod_int Tryd.underlying3 g0
    obtain ⟨q, e1, _, w1⟩ := DataW.trod_int Tryd.underlying2 g1
    simp at e0 e1
    subst e0 e1
    exact ⟨p, q, rfl, w1⟩

/-- Things that came in are fine. -/
structure OF (w : World) (y : OR) : Prop where
  src : Src w.heap.size w y.a y.m y.c y.xs
  wr : (Lit.int .i64 y.r).wf = true
  wx : ∀ c, c ∈ y.xs → (Lit.int .i64 c.2).wf = true

/-- One thing, of two cells. -/
theorem read_obj {H : Type} {enc : TypeId × Value → H} {w : World} {spare : Nat → Bool} {held : Bool} {fuel : Nat} {cs : List Value} {x : DataW H × List MemPlace} (h : DataW.trod enc Tryd.prog w 0 spare held fuel 41 cs = some x) :
    ∃ y : OR, cs = [.int .i64 y.r, .slice y.a y.m y.c] ∧ OF w y ∧ y.m + 1 ≤ Rows.uptoBulk x.1 := by
  obtain ⟨xs, n, _, rfl, hl, hlen, hf⟩ := DataW.trod_struct Tryd.underlying41 h
  rw [cells41] at hl
  match cs, hl, xs, hlen with
  | [v0, v1], _, [y0, y1], _ =>
    have g0 := hf 0 _ rfl
    have g1 := hf 1 _ rfl
    simp [cells3, cells23] at g0 g1
    obtain ⟨d, e0, _, w0⟩ := DataW.trod_int Tryd.underlying3 g0
    obtain ⟨a, m, c, zs, e1, hs, hmc, hw, hb⟩ := read_vals g1
    simp at e0
    subst e0 e1
    refine ⟨⟨d, a, m, c, zs⟩, rfl, ⟨hs, w0, hw⟩, ?_⟩
    simp only [List.map, Rows.uptoBulk, Rows.uptoBulkAll]
    omega

theorem totO_le {H : Type} : ∀ (L : List OR) (l : List (DataW H)), L.length = l.length → (∀ (i : Nat) (x : OR) (d : DataW H), L[i]? = some x → l[i]? = some d → x.m + 1 ≤ Rows.uptoBulk d) → totO L ≤ Rows.uptoBulkAll l
  | [], _, _, _ => by simp [totO]
  | x :: r, [], h, _ => by simp at h
  | x :: r, d :: l, h, k => by
      have h1 := totO_le r l (by simpa using h) (fun i y e hy he => k (i + 1) y e (by simpa using hy) (by simpa using he))
      have h2 := k 0 x d rfl rfl
      simp only [totO, Rows.uptoBulkAll]
      omega
theorem choose_lt {α : Type} {m : Nat} {p : Nat → α → Prop} (h : ∀ i, i < m → ∃ x, p i x) : ∃ l : List α, l.length = m ∧ ∀ (i : Nat) (x : α), l[i]? = some x → p i x := by
  induction m with
  | zero => exact ⟨[], rfl, fun i x hx => by simp at hx⟩
  | succ m ih =>
    obtain ⟨l, h1, h2⟩ := ih (fun i hi => h i (by omega))
    obtain ⟨x, hx⟩ := h m (by omega)
    refine ⟨l ++ [x], by simp [h1], fun i y hy => ?_⟩
    by_cases hi : i < l.length
    · rw [List.getElem?_append_left hi] at hy
      exact h2 i y hy
    · rw [List.getElem?_append_right (by omega)] at hy
      have h3 : i - l.length = 0 := by have := (List.getElem?_eq_some_iff.1 hy).1; simp at this; omega
      rw [h3] at hy
      simp at hy
      subst hy
      have : i = m := by omega
      subst this
      exact hx
theorem add_add (a : Addr) (i j : Nat) : (a.add i).add j = a.add (i + j) := by
  by_cases hi : i = 0 <;> by_cases hj : j = 0 <;> simp [Addr.add, hi, hj, Nat.add_assoc]

/-- The list of things that came in. -/
theorem read_objs {H : Type} {enc : TypeId × Value → H} {w : World} {spare : Nat → Bool} {held : Bool} {fuel : Nat} {v : Value} {x : DataW H × List MemPlace} (h : DataW.trod enc Tryd.prog w 0 spare held fuel 22 [v] = some x) :
    ∃ (a0 : Option Addr) (len cap : Nat) (L : List OR), v = .slice a0 len cap ∧ L.length = len ∧ ORs w.heap.size w a0 L ∧ (∀ (i : Nat) (y : OR), L[i]? = some y → OF w y) ∧ totO L ≤ Rows.uptoBulk x.1 := by
  rcases open_slice Tryd.underlying22 h with ⟨e, rfl⟩ | ⟨a, len, cap, m, n, D, Pl, e, _, hl, hm, hmm, rfl, hc⟩
  · simp at e
    subst e
    exact ⟨none, 0, 0, [], rfl, rfl, fun i x hx => by simp at hx, fun i x hx => by simp at hx, by simp [totO]⟩
  · simp at e
    subst e
    have hlm : len ≤ m := by rw [hmm]; split <;> omega
    rw [cells41] at hc
    have each : ∀ i, i < len → ∃ y : OR, (∀ j, j < 2 → w.cell? (a.add (i * 2 + j)) = [Value.int .i64 y.r, .slice y.a y.m y.c][j]?) ∧ OF w y ∧ y.m + 1 ≤ Rows.uptoBulk (D i) := by
      intro i hi
      obtain ⟨cs', h1, h2⟩ := hc i (by omega)
      obtain ⟨_, hlen, hcell⟩ := World.cells?_some h1
      obtain ⟨y, rfl, hs, hb⟩ := read_obj h2
      refine ⟨y, fun j hj => ?_, hs, hb⟩
      have := hcell j hj
      rwa [add_add] at this
    obtain ⟨L, hL, hp⟩ := choose_lt each
    refine ⟨some a, len, cap, L, rfl, hL, ?_, fun i y hy => (hp i y hy).2.1, ?_⟩
    · intro i y hy
      obtain ⟨hcl, _, _⟩ := hp i y hy
      have hc0 := hcl 0 (by omega)
      obtain ⟨b, off, spot⟩ := a
      have hspot : spot = none := by
        by_cases hi : i = 0
        · subst hi
          simpa [Addr.add] using World.cell?_spot hc0
        · have h0 : 0 < L.length := by have := (List.getElem?_eq_some_iff.1 hy).1; omega
          have := (hp 0 L[0] (List.getElem?_eq_getElem h0)).1 0 (by omega)
          simpa [Addr.add] using World.cell?_spot this
      subst hspot
      have hadd : ∀ j, (Addr.mk b off none).add j = ⟨b, off + j, none⟩ := fun j => Addr.add_lit b off j
      simp only [hadd] at hcl
      have hblk : b < w.heap.size := by
        have := World.block_lt_of_cell? w _ (hcl 0 (by omega))
        simpa using this
      exact ⟨b, off, rfl, hblk, hcl 0 (by omega), hcl 1 (by omega)⟩
    · have := totO_le L ((List.range len).map D) (by simp [hL]) (fun i y d hy hd => by
        have hb := (hp i y hy).2.2
        have hi : i < len := by have := (List.getElem?_eq_some_iff.1 hy).1; omega
        simp [hi] at hd
        rw [← hd]
        exact hb)
      simp only [Rows.uptoBulk]
      omega
end Go.Proofs.YtefkcmeeagflmaaDoor
