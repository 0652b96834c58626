/-
  Which registers instructions read and write, by the program; conditions: the tables lie as the program's text lays them, the instruction lies as told.
-/
import Derived.Test.YtkjkpkmmojchiaaGreatDoorIrB
namespace Go.Proofs.YtkjkpkmmojchiaaGreatDoor
open Go.RowKit
set_option linter.unusedVariables false
set_option linter.unusedSimpArgs false

/-- Letters that registers can be named by. -/
def okLs (l : List UInt8) : Bool := decide (l.length ≤ 10) && l.all (fun c => decide (c.toNat < 128)) && decide (nL l ≤ 1)
theorem okLs_f : ∀ n, n < 29 → okLs (fieldsT.getD n []) = true := by decide
theorem okLs_r : ∀ n, n < 29 → okLs (readsT.getD n []) = true := by decide
theorem okLs_w : ∀ n, n < 29 → okLs (writesT.getD n []) = true := by decide
theorem txt_list (l : List UInt8) : (txt l).data.toList = l := by simp [txt]
theorem txt_size (l : List UInt8) : (txt l).size = l.length := by simp [txt, ByteArray.size]
theorem registers_txt (l : List UInt8) (hl : okLs l = true) (B : Nat) (x : In) (w : World) (hx : InOk B w x) (hB : B ≤ w.heap.size) (hxl : x.l.length ≤ 8000000000000) :
    Calls Tryz.prog 174 #[.agg x.arr, .string (txt l)] w fun e w' => ∃ v, e = .returned v ∧ OR w' w.heap.size v (regsL x l) ∧ Fr [] w w' := by
  unfold okLs at hl
  simp only [Bool.and_eq_true, decide_eq_true_eq] at hl
  have h := registers_any (txt l) (by rw [txt_size]; exact hl.1.1) (fun i hi => ?_) (by rw [txt_list]; exact hl.2) B x w hx hB hxl
  · rw [txt_list] at h
    exact h
  · have h1 := List.all_eq_true.1 hl.1.2 ((txt l)[i]'hi) (by
      have : (txt l)[i]'hi = l[i]'(by rw [txt_size] at hi; exact hi) := by simp [txt]; rfl
      rw [this]
      exact List.getElem_mem _)
    simpa using h1

/-- The three tables that all laws' rows list. -/
structure Tabs (w : World) : Prop where
  f : Tab1 w 0 fieldsT
  len : 1 ≤ w.heap.size
theorem Tabs.fr {S : List Nat} {w w' : World} (h : Tabs w) (f : Fr S w w') (hS : ∀ k, k ∈ S → 1 ≤ k) : Tabs w' :=
  ⟨h.f.fr f (fun hm => by have := hS _ hm; omega), Nat.le_trans h.len f.size⟩

/-- The one that is written. -/
def wrL : List Int → Int
  | [] => -1
  | k :: _ => k
end Go.Proofs.YtkjkpkmmojchiaaGreatDoor
