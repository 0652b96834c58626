/-
  What the rows' lists give: the table lies as the program's text lays it; how a value that comes in is read; no condition.
-/
import Derived.Test.YtkjkpkmmojchiaaGreatDoorIrC
import Derived.Test.YtkjkpkmmojchiaaGreatDoorCards
import Derived.Test.YtkjkpkmmojchiaaGreatDoorTie
import Derived.WalkKit
import Derived.ProofKit
import Derived.OpenShut
import Derived.Deep.DeepHandedRow
import Derived.Lib.LaidTab
import Derived.Stop.LaidErr
import Derived.ChangeMaps5
import Derived.LaidMore
import Derived.SevenTiedAt
import Derived.Deep.Slices
import Derived.ChangeSlices
import Derived.SizedLaws
import Derived.Stop.Joined
import Derived.JoinedCond
namespace Go.Proofs.YtkjkpkmmojchiaaGreatDoor
open Go.ChangeShapes Go.WideShapes Go.ChangeAt Go.RowKit Go.Deep
set_option linter.unusedVariables false
set_option linter.unusedSimpArgs false
set_option maxRecDepth 100000

theorem own : ownKnob Tryz.prog.godebug = none := by kernel_rfl
theorem laidOut : laidOutB Tryz.prog = true := by kernel_rfl
def laidL : List (String × DataW Unit) := Rows.interpNoneRow.laid
def nmF : String := ((laidL.map Prod.fst)[0]?).getD ""
theorem gF : Tryz.prog.globalNamed nmF = some 0 := by kernel_rfl
theorem gFT : (Tryz.prog.globals[0]?).map (·.type) = some 215 := by kernel_rfl
theorem under215 : Tryz.prog.underlying 215 = some (.array 29 9) := by kernel_rfl
theorem cells215 : Tryz.prog.cellsOf 215 = 29 := by kernel_rfl
theorem cells9 : Tryz.prog.cellsOf 9 = 1 := by kernel_rfl
theorem cells3 : Tryz.prog.cellsOf 3 = 1 := by kernel_rfl
theorem cells2 : Tryz.prog.cellsOf 2 = 1 := by kernel_rfl
def strData {H : Type} (zs : List (List UInt8)) : DataW H := .agg (zs.map fun z => .lit (.string z))
theorem laid_list : laidL = [(nmF, strData fieldsT)] := by kernel_rfl
theorem cells_of_strs {H : Type} {enc : TypeId × Value → H} {P : Program} {w : World} {base : Nat} {sp : Nat → Bool} {held : Bool} {fuel : Nat} {t e : TypeId} {n : Nat} {cs : List Value} {zs : List (List UInt8)} {p : List MemPlace}
    (ht : P.underlying t = some (.array n e)) (he : P.underlying e = some .string) (hce : P.cellsOf e = 1) (hct : P.cellsOf t = n)
    (h : DataW.trod enc P w base sp held fuel t cs = some (strData zs, p)) : cs = zs.map fun z => Value.string ⟨z.toArray⟩ := by
  cases fuel with
  | zero => simp [DataW.trod] at h
  | succ fuel =>
    simp only [DataW.trod, ht, hce, hct, Nat.mul_one] at h
    split at h
    · rename_i hl
      obtain ⟨xs, hm, hx⟩ := Option.map_eq_some_iff.1 h
      have hxs : xs.map (·.1) = zs.map fun z => (DataW.lit (.string z) : DataW H) := by
        have := congrArg Prod.fst hx
        simpa [strData] using this
      have hxl : xs.length = n := by simpa using Lib.mapM_length hm
      have hzl : zs.length = n := by
        have := congrArg List.length hxs
        simp at this
        omega
      apply List.ext_getElem?
      intro i
      by_cases hi : i < n
      · obtain ⟨b, hb, hf⟩ := Lib.mapM_at hm i i (by simp [hi])
        obtain ⟨z, hc, rfl, _⟩ := DataW.trod_string he hf
        have h1 : cs[i]? = some (.string z) := by
          have := congrArg (·[0]?) hc
          simpa [List.getElem?_take, List.getElem?_drop] using this
        have h2 : (xs.map (·.1))[i]? = some (DataW.lit (.string z.data.toList) : DataW H) := by simp [hb]
        rw [hxs] at h2
        simp only [List.getElem?_map, Option.map_eq_some_iff, DataW.lit.injEq, Lit.string.injEq] at h2
        obtain ⟨z', hz', rfl⟩ := h2
        simp [h1, hz']
      · rw [List.getElem?_eq_none (by omega), List.getElem?_eq_none (by simp; omega)]
    · cases h
theorem tab_of {W : World} {nm : String} {g : Nat} {zs : List (List UInt8)} {l : List (String × DataW Unit)} (hg : Tryz.prog.globalNamed nm = some g) (hT : (Tryz.prog.globals[g]?).map (·.type) = some 215) (hz : zs.length = 29) (h : laidMet Tryz.prog ((nm, strData zs) :: l) W) : Tab1 W g zs := by
  have hs : W.var? Tryz.prog nm = some (zs.map fun z => Value.string ⟨z.toArray⟩).toArray := by
    obtain ⟨ps, ⟨g', t', cs, fuel, p, q, hg', ht', hvar, hd, _, _⟩, _⟩ := h
    obtain rfl := Option.some.inj (hg.symm.trans hg')
    obtain rfl := Option.some.inj (hT.symm.trans ht')
    rw [hvar, ← cells_of_strs under215 Tryz.underlying9 cells9 cells215 hd]
  refine ⟨fun n hn => ?_⟩
  have := World.var?_cell hg hs n
  rw [this]
  have hn' : n < zs.length := by omega
  simp [List.getD, hn', txt]
/-- What the rows' lists give. -/
theorem tabs {W : World} (h : laidMetH Tryz.prog laidL W) : Tabs W := by
  have h' : laidMet Tryz.prog laidL W := h
  rw [laid_list] at h'
  have t1 := tab_of gF gFT rfl h'
  exact ⟨t1, World.block_lt_of_cell? W _ (t1.cell 0 (by decide))⟩
/-- A world for the witness. -/
def lay (c : Array Value) : Obj → Obj
  | .cells _ t frozen => .cells c t frozen
  | o => o
def strs (zs : List (List UInt8)) : Array Value := (zs.map fun z => Value.string ⟨z.toArray⟩).toArray
def laidW (w : World) : World := { w with heap := w.heap.modify 0 (lay (strs fieldsT)) }
theorem read_val {H : Type} {enc : TypeId × Value → H} {w : World} {spare : Nat → Bool} {held : Bool} {fuel : Nat} {cs : List Value} {x : DataW H × List MemPlace} (h : DataW.trod enc Tryz.prog w 0 spare held fuel 33 cs = some x) : ∃ p q, cs = [.int .i64 p, .int .i64 q] := by
  obtain ⟨y0, y1, n, _, hl, h0, h1⟩ := trod_struct2 Tryz.underlying33 h
  have hl2 : cs.length = 2 := by rw [hl]; kernel_rfl
  match cs, hl2 with
  | [v0, v1], _ =>
    simp [cells3, cells2] at h0 h1
    obtain ⟨p, e0, _, _⟩ := DataW.trod_int Tryz.underlying3 h0
    obtain ⟨q, e1, _, _⟩ := DataW.trod_int Tryz.underlying2 h1
    simp at e0 e1
    exact ⟨p, q, by rw [e0, e1]⟩
theorem val_form {H : Type} {enc : TypeId × Value → H} {w w' : World} {r} {base : Nat} {spare : Nat → Bool} {held : Bool} {fuel : Nat} {v : Value} {x : DataW H × List MemPlace} (hv : Value.okWide Tryz.prog w' r base 33 v) (h : DataW.trod enc Tryz.prog w 0 spare held fuel 33 v.cells.toList = some x) : ∃ p q, v = .agg #[.int .i64 p, .int .i64 q] := by
  obtain ⟨cs, rfl, _⟩ := okWide_struct Tryz.underlying33 hv
  obtain ⟨p, q, e⟩ := read_val h
  refine ⟨p, q, ?_⟩
  cases cs
  simp only [Value.cells] at e
  rw [e]
end Go.Proofs.YtkjkpkmmojchiaaGreatDoor
