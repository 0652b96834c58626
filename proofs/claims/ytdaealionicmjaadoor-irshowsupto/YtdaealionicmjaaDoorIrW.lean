/-
  What the rows' lists give: the tables lie as the program's text lays them; how instructions, functions and code that come in are read; no condition.
-/
import Derived.Test.YtdaealionicmjaaDoorIrV
import Derived.Test.YtdaealionicmjaaDoorCards
import Derived.Test.YtdaealionicmjaaDoorTie
import Derived.WalkKit
import Derived.ProofKit
import Derived.OpenShut
import Derived.Deep.DeepHandedRow
import Derived.Lib.LaidTab
import Derived.Stop.LaidErr
import Derived.ChangeMaps5
import Derived.LaidMore
import Derived.SevenTiedAt
import Derived.Deep.Slices
import Derived.ChangeSlices
import Derived.SizedLaws
import Derived.Stop.Joined
import Derived.JoinedCond
namespace Go.Proofs.YtdaealionicmjaaDoor
open Go.ChangeShapes Go.WideShapes Go.ChangeAt Go.RowKit Go.Deep
set_option linter.unusedVariables false
set_option linter.unusedSimpArgs false
set_option maxRecDepth 100000

theorem own : ownKnob Tryd.prog.godebug = none := by kernel_rfl
theorem laidOut : laidOutB Tryd.prog = true := by kernel_rfl
def laidL : List (String × DataW Unit) := Rows.irUsesRow.laid
def nmF : String := ((laidL.map Prod.fst)[0]?).getD ""
def nmR : String := ((laidL.map Prod.fst)[1]?).getD ""
def nmW : String := ((laidL.map Prod.fst)[2]?).getD ""
theorem gF : Tryd.prog.globalNamed nmF = some 1 := by kernel_rfl
theorem gR : Tryd.prog.globalNamed nmR = some 2 := by kernel_rfl
theorem gW : Tryd.prog.globalNamed nmW = some 3 := by kernel_rfl
theorem gFT : (Tryd.prog.globals[1]?).map (·.type) = some 61 := by kernel_rfl
theorem gRT : (Tryd.prog.globals[2]?).map (·.type) = some 61 := by kernel_rfl
theorem gWT : (Tryd.prog.globals[3]?).map (·.type) = some 61 := by kernel_rfl
theorem under61 : Tryd.prog.underlying 61 = some (.array 29 9) := by kernel_rfl
theorem cells61 : Tryd.prog.cellsOf 61 = 29 := by kernel_rfl
theorem cells9 : Tryd.prog.cellsOf 9 = 1 := by kernel_rfl
theorem cells3 : Tryd.prog.cellsOf 3 = 1 := by kernel_rfl
theorem cells2 : Tryd.prog.cellsOf 2 = 1 := by kernel_rfl
theorem cells37 : Tryd.prog.cellsOf 37 = 1 := by kernel_rfl
theorem cells39 : Tryd.prog.cellsOf 39 = 6 := by kernel_rfl
theorem cells32 : Tryd.prog.cellsOf 32 = 1 := by kernel_rfl
theorem cells34 : Tryd.prog.cellsOf 34 = 4 := by kernel_rfl
theorem cells22 : Tryd.prog.cellsOf 22 = 1 := by kernel_rfl
theorem cells24 : Tryd.prog.cellsOf 24 = 3 := by kernel_rfl
theorem bytes3 : Tryd.prog.bytesOf 3 = 8 := by kernel_rfl
theorem bytes39 : Tryd.prog.bytesOf 39 = 64 := by kernel_rfl
theorem bytes34 : Tryd.prog.bytesOf 34 = 56 := by kernel_rfl

def strData {H : Type} (zs : List (List UInt8)) : DataW H := .agg (zs.map fun z => .lit (.string z))
theorem laid_list : laidL = [(nmF, strData fieldsT), (nmR, strData readsT), (nmW, strData writesT)] := by kernel_rfl
/-- An array of strings that reads as the table holds the table's strings. -/
theorem cells_of_strs {H : Type} {enc : TypeId × Value → H} {P : Program} {w : World} {base : Nat} {sp : Nat → Bool} {held : Bool} {fuel : Nat} {t e : TypeId} {n : Nat} {cs : List Value} {zs : List (List UInt8)} {p : List MemPlace}
    (ht : P.underlying t = some (.array n e)) (he : P.underlying e = some .string) (hce : P.cellsOf e = 1) (hct : P.cellsOf t = n)
    (h : DataW.trod enc P w base sp held fuel t cs = some (strData zs, p)) : cs = zs.map fun z => Value.string ⟨z.toArray⟩ := by
  cases fuel with
  | zero => simp [DataW.trod] at h
  | succ fuel =>
    simp only [DataW.trod, ht, hce, hct, Nat.mul_one] at h
    split at h
    · rename_i hl
      obtain ⟨xs, hm, hx⟩ := Option.map_eq_some_iff.1 h
      have hxs : xs.map (·.1) = zs.map fun z => (DataW.lit (.string z) : DataW H) := by
        have := congrArg Prod.fst hx
        simpa [strData] using this
      have hxl : xs.length = n := by simpa using Lib.mapM_length hm
      have hzl : zs.length = n := by
        have := congrArg List.length hxs
        simp at this
        omega
      apply List.ext_getElem?
      intro i
      by_cases hi : i < n
      · obtain ⟨b, hb, hf⟩ := Lib.mapM_at hm i i (by simp [hi])
        obtain ⟨z, hc, rfl, _⟩ := DataW.trod_string he hf
        have h1 : cs[i]? = some (.string z) := by
          have := congrArg (·[0]?) hc
          simpa [List.getElem?_take, List.getElem?_drop] using this
        have h2 : (xs.map (·.1))[i]? = some (DataW.lit (.string z.data.toList) : DataW H) := by simp [hb]
        rw [hxs] at h2
        simp only [List.getElem?_map, Option.map_eq_some_iff, DataW.lit.injEq, Lit.string.injEq] at h2
        obtain ⟨z', hz', rfl⟩ := h2
        simp [h1, hz']
      · rw [List.getElem?_eq_none (by omega), List.getElem?_eq_none (by simp; omega)]
    · cases h


theorem tab_of {W : World} {nm : String} {g : Nat} {zs : List (List UInt8)} {l : List (String × DataW Unit)} (hg : Tryd.prog.globalNamed nm = some g) (hT : (Tryd.prog.globals[g]?).map (·.type) = some 61) (hz : zs.length = 29) (h : laidMet Tryd.prog ((nm, strData zs) :: l) W) : Tab1 W g zs := by
  have hs : W.var? Tryd.prog nm = some (zs.map fun z => Value.string ⟨z.toArray⟩).toArray := by
    obtain ⟨ps, ⟨g', t', cs, fuel, p, q, hg', ht', hvar, hd, _, _⟩, _⟩ := h
    obtain rfl := Option.some.inj (hg.symm.trans hg')
    obtain rfl := Option.some.inj (hT.symm.trans ht')
    rw [hvar, ← cells_of_strs under61 Tryd.underlying9 cells9 cells61 hd]
  refine ⟨fun n hn => ?_⟩
  have := World.var?_cell hg hs n
  rw [this]
  have hn' : n < zs.length := by omega
  simp [List.getD, hn', txt]
/-- What the rows' lists give. -/
theorem tabs {W : World} (h : laidMetH Tryd.prog laidL W) : Tabs W := by
  have h' : laidMet Tryd.prog laidL W := h
  rw [laid_list] at h'
  have t1 := tab_of gF gFT rfl h'
  have t2 := tab_of gR gRT rfl h'.tail
  have t3 := tab_of gW gWT rfl h'.tail.tail
  exact ⟨t1, t2, t3, World.block_lt_of_cell? W _ (t3.cell 0 (by decide))⟩

theorem fr_kept {w w' : World} (h : Fr [] w w') (may : MemPlace → Prop) : w.keptBut w' may := by
  refine ⟨h.os, h.output, fun i hi => ?_⟩
  rw [h.block i hi (by simp)]
  cases ho : w.heap[i]? with
  | none => rfl
  | some o => cases o <;> simp


/-- A world for the witness. -/
def lay (c : Array Value) : Obj → Obj
  | .cells _ t frozen => .cells c t frozen
  | o => o
def strs (zs : List (List UInt8)) : Array Value := (zs.map fun z => Value.string ⟨z.toArray⟩).toArray
def laidW (w : World) : World :=
  { w with heap := ((w.heap.modify 1 (lay (strs fieldsT))).modify 2 (lay (strs readsT))).modify 3 (lay (strs writesT)) }

theorem read_ints {H : Type} {enc : TypeId × Value → H} {w : World} {spare : Nat → Bool} {held : Bool} {fuel : Nat} {v : Value} {x : DataW H × List MemPlace} (h : DataW.trod enc Tryd.prog w 0 spare held fuel 37 [v] = some x) :
    ∃ (a : Option Addr) (c : Nat) (ks : List Int), v = .slice a ks.length c ∧ KAt w.heap.size w a ks ∧ ks.length ≤ c ∧ c ≤ maxLen ∧ (a = none → c = 0) ∧ (ks.length = 0 ∨ ∃ n ∈ x.1.weights Tryd.prog 37, ks.length * 8 ≤ n) := by
  rcases open_ints Tryd.underlying37 Tryd.underlying3 cells3 h with ⟨e, rfl⟩ | ⟨a, len, cap, zs, e, _, hl, hm, hz, rfl, hc, _⟩
  · simp at e
    subst e
    exact ⟨none, 0, [], rfl, KAt.nil, Nat.le_refl _, Nat.zero_le _, fun _ => rfl, .inl rfl⟩
  · simp at e
    subst e
    have hlz : len ≤ zs.length := by rw [hz]; split <;> omega
    have hl' : (zs.take len).length = len := by simp; omega
    refine ⟨some a, cap, zs.take len, ?_, ?_, ?_, hm, ?_, .inr ?_⟩
    · rw [hl']
    · intro j k hj
      have hj' : j < len := by have := (List.getElem?_eq_some_iff.1 hj).1; omega
      have h1 := hc j (by omega)
      have h2 : zs.getD j 0 = k := by
        rw [List.getElem?_take_of_lt hj'] at hj
        simp [List.getD, hj]
      rw [h2] at h1
      have h0 := hc 0 (by omega)
      obtain ⟨b, off, spot⟩ := a
      have hs : spot = none := by simpa [Addr.add] using World.cell?_spot h0
      subst hs
      rw [Addr.add_lit] at h1
      exact ⟨b, off, rfl, World.block_lt_of_cell? w _ h1, h1⟩
    · omega
    · intro h; cases h
    · refine ⟨_, by simp only [DataW.weights, Tryd.underlying37]; exact List.mem_cons_self, ?_⟩
      rw [bytes3, hl']
      simp only [lits, List.length_map, List.length_take, List.length_drop]
      omega

theorem choose_lt {α : Type} {m : Nat} {p : Nat → α → Prop} (h : ∀ i, i < m → ∃ x, p i x) : ∃ l : List α, l.length = m ∧ ∀ (i : Nat) (x : α), l[i]? = some x → p i x := by
  induction m with
  | zero => exact ⟨[], rfl, fun i x hx => by simp at hx⟩
  | succ m ih =>
    obtain ⟨l, h1, h2⟩ := ih (fun i hi => h i (by omega))
    obtain ⟨x, hx⟩ := h m (by omega)
    refine ⟨l ++ [x], by simp [h1], fun i y hy => ?_⟩
    by_cases hi : i < l.length
    · rw [List.getElem?_append_left hi] at hy
      exact h2 i y hy
    · rw [List.getElem?_append_right (by omega)] at hy
      have h3 : i - l.length = 0 := by have := (List.getElem?_eq_some_iff.1 hy).1; simp at this; omega
      rw [h3] at hy
      simp at hy
      subst hy
      have : i = m := by omega
      subst this
      exact hx
theorem add_add (a : Addr) (i j : Nat) : (a.add i).add j = a.add (i + j) := by
  by_cases hi : i = 0 <;> by_cases hj : j = 0 <;> simp [Addr.add, hi, hj, Nat.add_assoc]
theorem weights_all {H : Type} {P : Program} {e : TypeId} : ∀ (l : List (DataW H)) (i : Nat) (d : DataW H), l[i]? = some d → ∀ n ∈ d.weights P e, n ∈ DataW.weightsAll P e l
  | [], i, d, h, n, hn => by simp at h
  | d0 :: l, 0, d, h, n, hn => by simp at h; subst h; simp only [DataW.weightsAll, List.mem_append]; exact .inl hn
  | d0 :: l, i + 1, d, h, n, hn => by simp only [DataW.weightsAll, List.mem_append]; exact .inr (weights_all l i d (by simpa using h) n hn)


/-- One instruction, of six cells. -/
theorem read_in {H : Type} {enc : TypeId × Value → H} {w : World} {spare : Nat → Bool} {held : Bool} {fuel : Nat} {cs : List Value} {x : DataW H × List MemPlace} (h : DataW.trod enc Tryd.prog w 0 spare held fuel 39 cs = some x) (hS : ∀ n ∈ x.1.weights Tryd.prog 39, n ≤ reachBytes) :
    ∃ y : In, cs = y.arr.toList ∧ InOk w.heap.size w y ∧ wfI y.k := by
  obtain ⟨xs, n, _, rfl, hl, hlen, hf⟩ := DataW.trod_struct Tryd.underlying39 h
  rw [cells39] at hl
  match cs, hl, xs, hlen with
  | [v0, v1, v2, v3, v4, v5], _, [y0, y1, y2, y3, y4, y5], _ =>
    have g0 := hf 0 _ rfl
    have g1 := hf 1 _ rfl
    have g2 := hf 2 _ rfl
    have g3 := hf 3 _ rfl
    have g4 := hf 4 _ rfl
    have g5 := hf 5 _ rfl
    simp [cells3, cells2, cells37] at g0 g1 g2 g3 g4 g5
    obtain ⟨d0, e0, _, _⟩ := DataW.trod_int Tryd.underlying3 g0
    obtain ⟨d1, e1, _, _⟩ := DataW.trod_int Tryd.underlying3 g1
    obtain ⟨d2, e2, _, _⟩ := DataW.trod_int Tryd.underlying3 g2
    obtain ⟨d3, e3, _, _⟩ := DataW.trod_int Tryd.underlying3 g3
    obtain ⟨d4, e4, _, w4⟩ := DataW.trod_int Tryd.underlying2 g4
    obtain ⟨a, c, ks, e5, hk, hkc, hcm, hkn, hw⟩ := read_ints g5
    simp at e0 e1 e2 e3 e4
    subst e0 e1 e2 e3 e4 e5
    refine ⟨⟨d0, d1, d2, d3, d4, a, c, ks⟩, rfl, ⟨hk, ?_, hkc, hkn⟩, w4⟩
    rcases hw with hw | ⟨n, hn, hle⟩
    · show ks.length ≤ _
      rw [hw]; omega
    · have h1 : ks.length * 8 ≤ reachBytes := by
        refine Nat.le_trans hle (hS n ?_)
        simp only [List.map, DataW.weights, Tryd.underlying39, DataW.weightsEach, List.mem_append]
        exact .inr (.inr (.inr (.inr (.inr (.inl hn)))))
      unfold reachBytes at h1
      show ks.length ≤ _
      omega

theorem ins_form {H : Type} {enc : TypeId × Value → H} {w w' : World} {r} {base : Nat} {spare : Nat → Bool} {held : Bool} {fuel : Nat} {v : Value} {x : DataW H × List MemPlace} (hv : Value.okWide Tryd.prog w' r base 39 v) (h : DataW.trod enc Tryd.prog w 0 spare held fuel 39 v.cells.toList = some x) (hS : ∀ n ∈ x.1.weights Tryd.prog 39, n ≤ reachBytes) :
    ∃ y : In, v = .agg y.arr ∧ InOk w.heap.size w y ∧ wfI y.k := by
  obtain ⟨cs, rfl, _⟩ := okWide_struct Tryd.underlying39 hv
  obtain ⟨y, e, hy, hk⟩ := read_in h hS
  refine ⟨y, ?_, hy, hk⟩
  cases cs
  simp only [Value.cells] at e
  rw [e]
end Go.Proofs.YtdaealionicmjaaDoor
