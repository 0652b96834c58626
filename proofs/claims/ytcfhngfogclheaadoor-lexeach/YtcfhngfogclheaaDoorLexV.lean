/-
  What the rows' lists give: both tables lie as the program's text lays them; no condition.
-/
import Derived.Test.YtcfhngfogclheaaDoorLexU
import Derived.Test.YtcfhngfogclheaaDoorCards
import Derived.Test.YtcfhngfogclheaaDoorTie
import Derived.WalkKit
import Derived.ProofKit
import Derived.OpenShut
import Derived.Deep.DeepHandedRow
import Derived.Lib.LaidTab
import Derived.Stop.LaidErr
import Derived.ChangeMaps5
namespace Go.Proofs.YtcfhngfogclheaaDoor
open Go.ChangeShapes Go.WideShapes Go.ChangeAt Go.RowKit

theorem own : ownKnob Tryd.prog.godebug = none := by kernel_rfl
/-- The two variables' names, as the row lists them. -/
def nmK : String := ((Rows.lexScansRow.laid.map Prod.fst)[0]?).getD ""
def nmS : String := ((Rows.lexScansRow.laid.map Prod.fst)[1]?).getD ""
theorem gKinds : Tryd.prog.globalNamed nmK = some 0 := by kernel_rfl
theorem gKindsT : (Tryd.prog.globals[0]?).map (·.type) = some 66 := by kernel_rfl
theorem gSigns : Tryd.prog.globalNamed nmS = some 2 := by kernel_rfl
theorem gSignsT : (Tryd.prog.globals[2]?).map (·.type) = some 72 := by kernel_rfl
theorem under66 : Tryd.prog.underlying 66 = some (.array 128 5) := by kernel_rfl
theorem under5 : Tryd.prog.underlying 5 = some (.int .u8) := by kernel_rfl
theorem under9 : Tryd.prog.underlying 9 = some .string := by kernel_rfl
theorem cells66 : Tryd.prog.cellsOf 66 = 128 := by kernel_rfl
theorem cells5 : Tryd.prog.cellsOf 5 = 1 := by kernel_rfl
theorem cells72 : Tryd.prog.cellsOf 72 = 26 := by kernel_rfl
theorem cells9 : Tryd.prog.cellsOf 9 = 1 := by kernel_rfl

def kindsZ : List Int := (List.range 128).map fun n => (kindN n : Int)
theorem kinds_tab : (Rows.laid_swath_lex_kinds : DataW Unit) = Lib.tabData .u8 kindsZ := by kernel_rfl
def strData {H : Type} (zs : List (List UInt8)) : DataW H := .agg (zs.map fun z => .lit (.string z))
theorem signs_tab : (Rows.laid_swath_lex_signs : DataW Unit) = strData signs := by kernel_rfl

/-- An array of strings that reads as the table holds the table's strings. -/
theorem cells_of_strs {H : Type} {enc : TypeId × Value → H} {P : Program} {w : World} {base : Nat} {sp : Nat → Bool} {held : Bool} {fuel : Nat} {t e : TypeId} {n : Nat} {cs : List Value} {zs : List (List UInt8)} {p : List MemPlace}
    (ht : P.underlying t = some (.array n e)) (he : P.underlying e = some .string) (hce : P.cellsOf e = 1) (hct : P.cellsOf t = n)
    (h : DataW.trod enc P w base sp held fuel t cs = some (strData zs, p)) : cs = zs.map fun z => Value.string ⟨z.toArray⟩ := by
  cases fuel with
  | zero => simp [DataW.trod] at h
  | succ fuel =>
    simp only [DataW.trod, ht, hce, hct, Nat.mul_one] at h
    split at h
    · rename_i hl
      obtain ⟨xs, hm, hx⟩ := Option.map_eq_some_iff.1 h
      have hxs : xs.map (·.1) = zs.map fun z => (DataW.lit (.string z) : DataW H) := by
        have := congrArg Prod.fst hx
        simpa [strData] using this
      have hxl : xs.length = n := by simpa using Lib.mapM_length hm
      have hzl : zs.length = n := by
        have := congrArg List.length hxs
        simp at this
        omega
      apply List.ext_getElem?
      intro i
      by_cases hi : i < n
      · obtain ⟨b, hb, hf⟩ := Lib.mapM_at hm i i (by simp [hi])
        obtain ⟨z, hc, rfl, _⟩ := DataW.trod_string he hf
        have h1 : cs[i]? = some (.string z) := by
          have := congrArg (·[0]?) hc
          simpa [List.getElem?_take, List.getElem?_drop] using this
        have h2 : (xs.map (·.1))[i]? = some (DataW.lit (.string z.data.toList) : DataW H) := by simp [hb]
        rw [hxs] at h2
        simp only [List.getElem?_map, Option.map_eq_some_iff, DataW.lit.injEq, Lit.string.injEq] at h2
        obtain ⟨z', hz', rfl⟩ := h2
        simp [h1, hz']
      · rw [List.getElem?_eq_none (by omega), List.getElem?_eq_none (by simp; omega)]
    · cases h

theorem laid_list : Rows.lexScansRow.laid = [(nmK, Lib.tabData .u8 kindsZ), (nmS, strData signs)] := by kernel_rfl

/-- What the rows' lists give. -/
theorem tabs {W : World} (h : laidMetH Tryd.prog Rows.lexScansRow.laid W) : Tabs W := by
  have h' : laidMet Tryd.prog Rows.lexScansRow.laid W := h
  rw [laid_list] at h'
  have hk := Lib.tabIs_of_head gKinds gKindsT under66 under5 cells5 cells66 h'
  have hs : W.var? Tryd.prog nmS = some (signs.map fun z => Value.string ⟨z.toArray⟩).toArray := by
    obtain ⟨ps, ⟨g', t', cs, fuel, p, q, hg', ht', hvar, hd, _, _⟩, _⟩ := h'.tail
    obtain rfl := Option.some.inj (gSigns.symm.trans hg')
    obtain rfl := Option.some.inj (gSignsT.symm.trans ht')
    rw [hvar, ← cells_of_strs under72 under9 cells9 cells72 hd]
  have c0 : ∀ n, n < 128 → W.cell? ⟨0, n, none⟩ = some (.int .u8 (kindN n)) := fun n hn => by
    have := hk.cell gKinds n (by simpa [kindsZ] using hn)
    rw [this]
    simp [kindsZ, List.getD, hn]
  have c2 : ∀ n, n < 26 → W.cell? ⟨2, n, none⟩ = some (.string ⟨(signs.getD n []).toArray⟩) := fun n hn => by
    have := World.var?_cell gSigns hs n
    rw [this]
    have hl : signs.length = 26 := rfl
    have hn' : n < signs.length := by omega
    simp [List.getD, hn']
  exact ⟨c0, c2, World.block_lt_of_cell? W _ (c2 0 (by decide))⟩

theorem fr_kept {w w' : World} (h : Fr [] w w') (may : MemPlace → Prop) : w.keptBut w' may := by
  refine ⟨h.os, h.output, fun i hi => ?_⟩
  rw [h.block i hi (by simp)]
  cases ho : w.heap[i]? with
  | none => rfl
  | some o => cases o <;> simp

/-- A world for the witness. -/
def lay (c : Array Value) : Obj → Obj
  | .cells _ t frozen => .cells c t frozen
  | o => o
def laidW (w : World) : World :=
  { w with heap := (w.heap.modify 0 (lay ((List.range 128).map fun n => Value.int .u8 (kindN n)).toArray)).modify 2 (lay (signs.map fun z => Value.string ⟨z.toArray⟩).toArray) }
end Go.Proofs.YtcfhngfogclheaaDoor
