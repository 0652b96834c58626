/-
  What the rows' lists give: the tables lie as the program's text lays them; no condition.
-/
import Derived.Test.YtekjfddcbcijdaaGreatDoorMovC
import Derived.Test.YtekjfddcbcijdaaGreatDoorAwk
import Derived.Test.YtekjfddcbcijdaaGreatDoorCards
import Derived.Test.YtekjfddcbcijdaaGreatDoorTie
import Derived.WalkKit
import Derived.ProofKit
import Derived.OpenShut
import Derived.Deep.DeepHandedRow
import Derived.Lib.LaidTab
import Derived.Stop.LaidErr
import Derived.ChangeMaps5
namespace Go.Proofs.YtekjfddcbcijdaaGreatDoor
open Go.ChangeShapes Go.WideShapes Go.ChangeAt Go.RowKit

theorem own : ownKnob Tryz.prog.godebug = none := by kernel_rfl
/-- The variables' names, as the row lists them. -/
def nmA : String := ((Rows.parseMovesRow.laid.map Prod.fst)[0]?).getD ""
def nmD : String := ((Rows.parseMovesRow.laid.map Prod.fst)[1]?).getD ""
def nmK : String := ((Rows.parseMovesRow.laid.map Prod.fst)[3]?).getD ""
def nmS : String := ((Rows.parseMovesRow.laid.map Prod.fst)[4]?).getD ""
theorem gKinds : Tryz.prog.globalNamed nmK = some 0 := by kernel_rfl
theorem gKindsT : (Tryz.prog.globals[0]?).map (·.type) = some 73 := by kernel_rfl
theorem gSigns : Tryz.prog.globalNamed nmS = some 1 := by kernel_rfl
theorem gSignsT : (Tryz.prog.globals[1]?).map (·.type) = some 77 := by kernel_rfl
theorem gPowT : (Tryz.prog.globals[2]?).map (·.type) = some 99 := by kernel_rfl
theorem gA : Tryz.prog.globalNamed nmA = some 4 := by kernel_rfl
theorem gAT : (Tryz.prog.globals[4]?).map (·.type) = some 106 := by kernel_rfl
theorem gB : Tryz.prog.globalNamed nmD = some 5 := by kernel_rfl
theorem gBT : (Tryz.prog.globals[5]?).map (·.type) = some 107 := by kernel_rfl
theorem under124 : Tryz.prog.underlying 73 = some (.array 128 5) := by kernel_rfl
theorem under5 : Tryz.prog.underlying 5 = some (.int .u8) := by kernel_rfl
theorem under9s : Tryz.prog.underlying 9 = some .string := by kernel_rfl
theorem cells124 : Tryz.prog.cellsOf 73 = 128 := by kernel_rfl
theorem cells5 : Tryz.prog.cellsOf 5 = 1 := by kernel_rfl
theorem cells126 : Tryz.prog.cellsOf 77 = 26 := by kernel_rfl
theorem cells9 : Tryz.prog.cellsOf 9 = 1 := by kernel_rfl
def kindsZ : List Int := (List.range 128).map fun n => (kindN n : Int)
def strData {H : Type} (zs : List (List UInt8)) : DataW H := .agg (zs.map fun z => .lit (.string z))
theorem under162 : Tryz.prog.underlying 106 = some (.array 32 5) := by kernel_rfl
theorem under163 : Tryz.prog.underlying 107 = some (.array 64 5) := by kernel_rfl
theorem cells162 : Tryz.prog.cellsOf 106 = 32 := by kernel_rfl
theorem cells163 : Tryz.prog.cellsOf 107 = 64 := by kernel_rfl
theorem under149 : Tryz.prog.underlying 99 = some (.array 20 86) := by kernel_rfl
theorem under105u : Tryz.prog.underlying 86 = some (.int .u64) := by kernel_rfl
theorem cells149 : Tryz.prog.cellsOf 99 = 20 := by kernel_rfl
theorem cells105u : Tryz.prog.cellsOf 86 = 1 := by kernel_rfl
/-- The numbers of a table, as the row spells them. -/
def numsOf : DataW Unit → List Int
  | .agg l => l.map fun | .lit (.int _ n) => n | _ => 0
  | _ => []
def bitsA : List Int := numsOf Rows.laid_math_bits_deBruijn32tab
def bitsB : List Int := numsOf Rows.laid_math_bits_deBruijn64tab

/-- An array of strings that reads as the table holds the table's strings. -/
theorem cells_of_strs {H : Type} {enc : TypeId × Value → H} {P : Program} {w : World} {base : Nat} {sp : Nat → Bool} {held : Bool} {fuel : Nat} {t e : TypeId} {n : Nat} {cs : List Value} {zs : List (List UInt8)} {p : List MemPlace}
    (ht : P.underlying t = some (.array n e)) (he : P.underlying e = some .string) (hce : P.cellsOf e = 1) (hct : P.cellsOf t = n)
    (h : DataW.trod enc P w base sp held fuel t cs = some (strData zs, p)) : cs = zs.map fun z => Value.string ⟨z.toArray⟩ := by
  cases fuel with
  | zero => simp [DataW.trod] at h
  | succ fuel =>
    simp only [DataW.trod, ht, hce, hct, Nat.mul_one] at h
    split at h
    · rename_i hl
      obtain ⟨xs, hm, hx⟩ := Option.map_eq_some_iff.1 h
      have hxs : xs.map (·.1) = zs.map fun z => (DataW.lit (.string z) : DataW H) := by
        have := congrArg Prod.fst hx
        simpa [strData] using this
      have hxl : xs.length = n := by simpa using Lib.mapM_length hm
      have hzl : zs.length = n := by
        have := congrArg List.length hxs
        simp at this
        omega
      apply List.ext_getElem?
      intro i
      by_cases hi : i < n
      · obtain ⟨b, hb, hf⟩ := Lib.mapM_at hm i i (by simp [hi])
        obtain ⟨z, hc, rfl, _⟩ := DataW.trod_string he hf
        have h1 : cs[i]? = some (.string z) := by
          have := congrArg (·[0]?) hc
          simpa [List.getElem?_take, List.getElem?_drop] using this
        have h2 : (xs.map (·.1))[i]? = some (DataW.lit (.string z.data.toList) : DataW H) := by simp [hb]
        rw [hxs] at h2
        simp only [List.getElem?_map, Option.map_eq_some_iff, DataW.lit.injEq, Lit.string.injEq] at h2
        obtain ⟨z', hz', rfl⟩ := h2
        simp [h1, hz']
      · rw [List.getElem?_eq_none (by omega), List.getElem?_eq_none (by simp; omega)]
    · cases h


theorem laid_list : Rows.parseMovesRow.laid = [(nmA, Lib.tabData .u8 bitsA), (nmD, Lib.tabData .u8 bitsB), (pw10, Lib.tabData .u64 Lib.pow10Tab), (nmK, Lib.tabData .u8 kindsZ), (nmS, strData signs)] := by kernel_rfl

/-- What the rows' lists give. -/
theorem tabs {W : World} (h : laidMetH Tryz.prog Rows.parseMovesRow.laid W) : Tabs W := by
  have h' : laidMet Tryz.prog Rows.parseMovesRow.laid W := h
  rw [laid_list] at h'
  have hB := Lib.tabIs_of_head gB gBT under163 under5 cells5 cells163 h'.tail
  have hP := Lib.tabIs_of_head gPow gPowT under149 under105u cells105u cells149 h'.tail.tail
  have hk := Lib.tabIs_of_head gKinds gKindsT under124 under5 cells5 cells124 h'.tail.tail.tail
  have hs : W.var? Tryz.prog nmS = some (signs.map fun z => Value.string ⟨z.toArray⟩).toArray := by
    obtain ⟨ps, ⟨g', t', cs, fuel, p, q, hg', ht', hvar, hd, _, _⟩, _⟩ := h'.tail.tail.tail.tail
    obtain rfl := Option.some.inj (gSigns.symm.trans hg')
    obtain rfl := Option.some.inj (gSignsT.symm.trans ht')
    rw [hvar, ← cells_of_strs under126 under9s cells9 cells126 hd]
  have c0 : ∀ n, n < 128 → W.cell? ⟨0, n, none⟩ = some (.int .u8 (kindN n)) := fun n hn => by
    have := hk.cell gKinds n (by simpa [kindsZ] using hn)
    rw [this]
    simp [kindsZ, List.getD, hn]
  have c2 : ∀ n, n < 26 → W.cell? ⟨1, n, none⟩ = some (.string ⟨(signs.getD n []).toArray⟩) := fun n hn => by
    have := World.var?_cell gSigns hs n
    rw [this]
    have hl : signs.length = 26 := rfl
    have hn' : n < signs.length := by omega
    simp [List.getD, hn']
  have hb := hB.cell gB 0 (by decide)
  exact ⟨c0, c2, hP, World.block_lt_of_cell? W _ hb⟩

theorem fr_kept {w w' : World} (h : Fr [] w w') (may : MemPlace → Prop) : w.keptBut w' may := by
  refine ⟨h.os, h.output, fun i hi => ?_⟩
  rw [h.block i hi (by simp)]
  cases ho : w.heap[i]? with
  | none => rfl
  | some o => cases o <;> simp

/-- A world for the witness. -/
def lay (c : Array Value) : Obj → Obj
  | .cells _ t frozen => .cells c t frozen
  | o => o
def laidW (w : World) : World :=
  { w with heap := ((((w.heap.modify 0 (lay (kindsZ.map fun n => Value.int .u8 n).toArray)).modify 1 (lay (signs.map fun z => Value.string ⟨z.toArray⟩).toArray)).modify 2 (lay (Lib.pow10Tab.map fun n => Value.int .u64 n).toArray)).modify 4 (lay (bitsA.map fun n => Value.int .u8 n).toArray)).modify 5 (lay (bitsB.map fun n => Value.int .u8 n).toArray) }
end Go.Proofs.YtekjfddcbcijdaaGreatDoor
