/-
  Whether a number is held in a list, by the document; conditions: the list lies as told.
-/
import Derived.Test.YtdaealionicmjaaDoorChkA
namespace Go.Proofs.YtdaealionicmjaaDoor
open Go.RowKit
set_option linter.unusedVariables false
set_option linter.unusedSimpArgs false

def heldL (a : List Int) (z : Int) : Bool := a.any (fun x => x == z)
theorem heldL_at {a : List Int} {p : Nat} {x : Int} (hx : a[p]? = some x) (z : Int) : heldL (a.drop p) z = ((x == z) || heldL (a.drop (p + 1)) z) := by
  obtain ⟨h1, e1⟩ := List.getElem?_eq_some_iff.1 hx
  rw [List.drop_eq_getElem_cons h1, e1]
  rfl

set_option maxRecDepth 100000 in
theorem held_any (B : Nat) (w : World) (a : List Int) (aa : Option Addr) (m ac : Nat) (z : Int) (ha : a.length = m) (hm : m ≤ maxLen) (hA : KAt B w aa a) :
    Calls Tryd.prog 26 #[.slice aa m ac, .int .i64 z] w fun e w' => e = .returned (.bool (heldL a z)) ∧ Fr [] w w' := by
  unfold maxLen at hm
  have HA : Hid (a.length = m) := ha
  clear ha
  go_enter Tryd.func26, Tryd.ntmps26
  go_wp2
  go_loopw [6, 9] (fun _ i wr => ∃ p : Nat, p ≤ m ∧ i = .int .i64 p ∧ Fr [] w wr ∧ Hid (heldL (a.drop p) z = heldL a z)) (fun _ i _ => m - (intOf i).toNat)
  case atStart => exact ⟨0, Nat.zero_le _, rfl, Fr.refl _ _, rfl⟩
  case round =>
    obtain ⟨p, hp, rfl, fw, he⟩ := hrel
    by_cases hlt : p < m
    · have hx : a[p]? = some (a[p]'(by rw [HA.out]; exact hlt)) := List.getElem?_eq_getElem _
      generalize a[p]'(by rw [HA.out]; exact hlt) = x at hx
      obtain ⟨b1, o1, rfl, hb1, c1⟩ := (hA.fr fw (by simp)) p x hx
      have HS : Hid _ := heldL_at hx z
      clear hx hA
      by_cases hxy : x = z
      · have hxy' : (x == z) = true := by simp [hxy]
        have HR : Hid (heldL a z = true) := by unfold Hid; rw [← he.out, HS.out, hxy']; rfl
        clear HS hxy he
        go_wp2
        go_ret
        exact ⟨by rw [HR.out]; rfl, fw⟩
      · have hxy' : (x == z) = false := by simp [hxy]
        have HR : Hid (heldL (a.drop (p + 1)) z = heldL a z) := by unfold Hid; rw [← he.out, HS.out, hxy', Bool.false_or]
        clear HS hxy he
        go_wp2
        go_roundw
        case rel => exact ⟨p + 1, hlt, by go_num, fw, HR⟩
        case measure => simp [intOf]; omega
    · have HE : Hid (heldL a z = false) := by
        unfold Hid
        rw [← he.out, List.drop_of_length_le (by rw [HA.out]; omega)]
        rfl
      have hpI : ¬ (p : Int) < m := by omega
      go_wp2
      go_ret
      exact ⟨by rw [HE.out]; rfl, fw⟩
end Go.Proofs.YtdaealionicmjaaDoor
