/-
  What any operation takes and makes, and whether it may leave: the program answers as the document; condition: the table lies as laid.
-/
import Derived.Test.YtkogfgbgmifcnaaDoorTdF
namespace Go.Proofs.YtkogfgbgmifcnaaDoor
open Go.RowKit
set_option linter.unusedVariables false
set_option linter.unusedSimpArgs false
set_option maxRecDepth 100000 in
set_option maxHeartbeats 8000000 in
theorem traceKinds_walk (op : Int) (w : World) (ht : Tab w) : Calls Tryd.prog 4 #[.int .i64 op] w fun e w' => e = .returned (.bool true) ∧ Fr [] w w' := by
  have CA := awake8 ht
  have HT : Hid (Tab w) := ht
  have C12 : Hid (∀ w', Tab w' → Calls Tryd.prog 12 #[.int .i64 op] w' fun e w'' => e = .returned (.bool (rowP op).mkv) ∧ Fr [] w' w'') := fun w' h => makes12 h op
  have C13 : Hid (∀ w', Calls Tryd.prog 13 #[.int .i64 op] w' fun e w'' => e = .returned (.bool (rowP op).mkv) ∧ Fr [] w' w'') := fun w' => makes13 w' op
  have C14 : Hid (∀ w', Tab w' → Calls Tryd.prog 14 #[.int .i64 op] w' fun e w'' => e = .returned (.bool (rowP op).myv) ∧ Fr [] w' w'') := fun w' h => may14 h op
  have C15 : Hid (∀ w', Calls Tryd.prog 15 #[.int .i64 op] w' fun e w'' => e = .returned (.bool (rowP op).myv) ∧ Fr [] w' w'') := fun w' => may15 w' op
  have C16 : Hid (∀ w', Tab w' → Calls Tryd.prog 16 #[.int .i64 op] w' fun e w'' => e = .returned (.int .i64 (rowP op).ar) ∧ Fr [] w' w'') := fun w' h => args16 h op
  have C17 : Hid (∀ w', Calls Tryd.prog 17 #[.int .i64 op] w' fun e w'' => e = .returned (.int .i64 (rowP op).ar) ∧ Fr [] w' w'') := fun w' => args17 w' op
  clear ht
  generalize (rowP op).mkv = a at *
  generalize (rowP op).myv = b at *
  generalize (rowP op).ar = c at *
  go_enter Tryd.func4, Tryd.ntmps4
  go_wp2_with (first
    | (go_at_call 8; refine CA.mono ?_; rintro e w1 ⟨rfl, f1⟩)
    | (go_at_call 12; refine (C12.out _ (HT.out.fr0 f1)).mono ?_; rintro e w2 ⟨rfl, f2⟩; have g2 := f1.trans f2)
    | (go_at_call 13; refine (C13.out _).mono ?_; rintro e w3 ⟨rfl, f3⟩; have g3 := g2.trans f3)
    | (go_at_call 14; refine (C14.out _ (HT.out.fr0 g3)).mono ?_; rintro e w4 ⟨rfl, f4⟩; have g4 := g3.trans f4)
    | (go_at_call 15; refine (C15.out _).mono ?_; rintro e w5 ⟨rfl, f5⟩; have g5 := g4.trans f5)
    | (go_at_call 16; refine (C16.out _ (HT.out.fr0 g5)).mono ?_; rintro e w6 ⟨rfl, f6⟩; have g6 := g5.trans f6)
    | (go_at_call 17; refine (C17.out _).mono ?_; rintro e w7 ⟨rfl, f7⟩; have g7 := g6.trans f7))
  go_ret
  exact ⟨rfl, g7⟩
end Go.Proofs.YtkogfgbgmifcnaaDoor
