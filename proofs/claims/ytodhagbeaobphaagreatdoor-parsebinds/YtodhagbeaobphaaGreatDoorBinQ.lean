/-
  Which texts are operators, and on which line each stands, by the document; no condition.
-/
import Derived.Test.YtodhagbeaobphaaGreatDoorBinP
namespace Go.Proofs.YtodhagbeaobphaaGreatDoor
open Go.RowKit
set_option linter.unusedVariables false
set_option linter.unusedSimpArgs false

def binL (s : ByteArray) : Bool := binaries.contains s.data.toList
theorem binAt (k : Nat) (h : k < 14) : (binaries.map fun l => Value.string ⟨l.toArray⟩)[k]? = some (.string ⟨(binaries.getD k []).toArray⟩) := by
  have hl : binaries.length = 14 := rfl
  rw [List.getElem?_map, List.getElem?_eq_getElem (by omega)]
  simp [List.getD, List.getElem?_eq_getElem (l := binaries) (i := k) (by omega)]
theorem binL_toList (s : ByteArray) : binaries.contains s.toList = binL s := by rw [Lib.toList_data]; rfl

set_option maxRecDepth 100000 in
theorem Operator_any (s : ByteArray) (w : World) :
    Calls Tryz.prog 14 #[.string s] w fun e w' => e = .returned (.bool (binL s)) ∧ Fr [] w w' := by
  go_enter Tryz.func14, Tryz.ntmps14
  go_wp2
  generalize hw1 : w.alloc _ = w1
  have hF : Fr [] w w1 := by rw [← hw1]; exact (Fr.refl _ _).alloc _
  have hB : w1.heap[w.heap.size]? = some (.cells (binaries.map fun l => Value.string ⟨l.toArray⟩).toArray 9) := by rw [← hw1]; exact heap_alloc_new w _
  have hC : ∀ k, k < 14 → w1.cell? ⟨w.heap.size, k, none⟩ = some (.string ⟨(binaries.getD k []).toArray⟩) := fun k hk => by
    unfold World.cell?
    rw [hB]
    simpa using binAt k hk
  clear hw1 hB
  generalize w.heap.size = g at hC ⊢
  go_loop [7] (fun i => ∃ k : Nat, k ≤ 14 ∧ i = .int .i64 k ∧ ∀ j, j < k → s.toList ≠ binaries.getD j []) (fun i => 14 - (intOf i).toNat)
  case atStart => exact ⟨0, by omega, rfl, fun j hj => by omega⟩
  case round =>
    obtain ⟨k, hk, rfl, hno⟩ := hrel
    have hno' : Hid (∀ j, j < k → s.toList ≠ binaries.getD j []) := hno
    clear hno
    by_cases hlt : k < 14
    · have hlt' : (k : Int) < 14 := by omega
      have hc := hC k hlt
      clear hC
      have hq : (s.toList == (⟨(binaries.getD k []).toArray⟩ : ByteArray).toList) = decide (s.toList = binaries.getD k []) := by
        rw [Lib.toList_data (⟨(binaries.getD k []).toArray⟩ : ByteArray), Bool.eq_iff_iff]
        simp
      by_cases he : s.toList = binaries.getD k []
      · have hq' : (s.toList == (⟨(binaries.getD k []).toArray⟩ : ByteArray).toList) = true := by rw [hq]; exact decide_eq_true he
        have hw : binL s = true := by
          rw [← binL_toList, he]
          simp only [List.contains_iff_mem]
          have : k < binaries.length := hlt
          simp [List.getD, List.getElem?_eq_getElem this]
        have HW : Hid (binL s = true) := hw
        clear hw hq he
        generalize (⟨(binaries.getD k []).toArray⟩ : ByteArray) = x at *
        go_wp2
        go_ret
        refine ⟨?_, hF⟩; rw [HW.out]; rfl
      · have hq' : (s.toList == (⟨(binaries.getD k []).toArray⟩ : ByteArray).toList) = false := by rw [hq]; exact decide_eq_false he
        have HE : Hid (¬ s.toList = binaries.getD k []) := he
        clear hq he
        generalize (⟨(binaries.getD k []).toArray⟩ : ByteArray) = x at *
        go_wp2
        go_round
        case rel => exact ⟨k + 1, hlt, by go_num, fun j hj => by
          by_cases hjk : j = k
          · rw [hjk]; exact HE.out
          · exact hno'.out j (by omega)⟩
        case measure => simp [intOf]; omega
    · have hlt' : ¬ (k : Int) < 14 := by omega
      have hw : binL s = false := by
        have hk' : k = 14 := by omega
        subst hk'
        rw [← binL_toList, Bool.eq_false_iff]
        intro h
        obtain ⟨j, hj, e⟩ := List.getElem_of_mem (List.contains_iff_mem.1 h)
        refine hno'.out j hj ?_
        rw [← e]
        simp [List.getD, List.getElem?_eq_getElem hj]
      have HW : Hid (binL s = false) := hw
      clear hw
      go_wp2
      go_ret
      refine ⟨?_, hF⟩; rw [HW.out]; rfl

set_option maxRecDepth 100000 in
set_option maxHeartbeats 1000000 in
theorem Level_any (l : List UInt8) (w : World) : Calls Tryz.prog 15 #[.string ⟨l.toArray⟩] w fun e w' => e = .returned (.int .i64 (levN l : Nat)) ∧ w' = w := by
  go_enter Tryz.func15, Tryz.ntmps15
  go_wp2
  all_goals (go_ret; refine ⟨?_, rfl⟩; simp_all [levN])
end Go.Proofs.YtodhagbeaobphaaGreatDoor
