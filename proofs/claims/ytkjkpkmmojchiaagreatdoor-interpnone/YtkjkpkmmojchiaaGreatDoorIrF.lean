/-
  Whether lists of numbers are alike, by the program, by the library and by the document; conditions: the lists lie as told.
-/
import Derived.Test.YtkjkpkmmojchiaaGreatDoorIrA
namespace Go.Proofs.YtkjkpkmmojchiaaGreatDoor
open Go.RowKit
set_option linter.unusedVariables false
set_option linter.unusedSimpArgs false

def ksEq (a b : List Int) : Bool := a == b
theorem ks_at {a b : List Int} {p : Nat} {x y : Int} (hx : a[p]? = some x) (hy : b[p]? = some y) : ksEq (a.drop p) (b.drop p) = ((x == y) && ksEq (a.drop (p + 1)) (b.drop (p + 1))) := by
  obtain ⟨h1, e1⟩ := List.getElem?_eq_some_iff.1 hx
  obtain ⟨h2, e2⟩ := List.getElem?_eq_some_iff.1 hy
  unfold ksEq
  rw [List.drop_eq_getElem_cons h1, List.drop_eq_getElem_cons h2, e1, e2, List.cons_beq_cons]

set_option maxRecDepth 100000 in
theorem equal_any (B : Nat) (w : World) (a b : List Int) (aa ba : Option Addr) (m n ac bc : Nat) (ha : a.length = m) (hb : b.length = n) (hm : m ≤ maxLen) (hn : n ≤ maxLen) (hA : KAt B w aa a) (hBt : KAt B w ba b) :
    Calls Tryz.prog 179 #[.slice aa m ac, .slice ba n bc] w fun e w' => e = .returned (.bool (ksEq a b)) ∧ Fr [] w w' := by
  unfold maxLen at hm hn
  have HA : Hid (a.length = m) := ha
  have HB : Hid (b.length = n) := hb
  clear ha hb
  by_cases hmn : m = n
  · subst hmn
    go_enter Tryz.func179, Tryz.ntmps179
    go_wp2
    go_loopw [13] (fun i wr => ∃ p : Nat, p ≤ m ∧ i = .int .i64 p ∧ Fr [] w wr ∧ Hid (ksEq (a.drop p) (b.drop p) = ksEq a b)) (fun i _ => m - (intOf i).toNat)
    case atStart => exact ⟨0, Nat.zero_le _, rfl, Fr.refl _ _, rfl⟩
    case round =>
      obtain ⟨p, hp, rfl, fw, he⟩ := hrel
      by_cases hlt : p < m
      · have hx : a[p]? = some (a[p]'(by rw [HA.out]; exact hlt)) := List.getElem?_eq_getElem _
        have hy : b[p]? = some (b[p]'(by rw [HB.out]; exact hlt)) := List.getElem?_eq_getElem _
        generalize a[p]'(by rw [HA.out]; exact hlt) = x at hx
        generalize b[p]'(by rw [HB.out]; exact hlt) = y at hy
        obtain ⟨b1, o1, rfl, hb1, c1⟩ := (hA.fr fw (by simp)) p x hx
        obtain ⟨b2, o2, rfl, hb2, c2⟩ := (hBt.fr fw (by simp)) p y hy
        have HS : Hid _ := ks_at hx hy
        clear hx hy hA hBt
        by_cases hxy : x = y
        · subst hxy
          have HR : Hid (ksEq (a.drop (p + 1)) (b.drop (p + 1)) = ksEq a b) := by unfold Hid; rw [← he.out, HS.out]; simp
          clear HS
          go_wp2
          go_quiet (fail)
          go_wp2
          go_roundw
          case rel => exact ⟨p + 1, hlt, by go_num, fw.drewN _, HR⟩
          case measure => simp [intOf]; omega
        · have hxy' : (x == y) = false := by simp [hxy]
          have HR : Hid (ksEq a b = false) := by unfold Hid; rw [← he.out, HS.out, hxy', Bool.false_and]
          clear HS hxy
          go_wp2
          go_quiet (fail)
          go_wp2
          go_ret
          exact ⟨by rw [HR.out]; rfl, fw.drewN _⟩
      · have HE : Hid (ksEq a b = true) := by
          unfold Hid
          rw [← he.out, List.drop_of_length_le (by rw [HA.out]; omega), List.drop_of_length_le (by rw [HB.out]; omega)]
          rfl
        go_wp2
        go_ret
        exact ⟨by rw [HE.out]; rfl, fw⟩
  · have HR : Hid (ksEq a b = false) := by
      unfold Hid ksEq
      rw [Bool.eq_false_iff]
      intro h
      have h2 : a = b := by simpa using h
      apply hmn
      rw [← HA.out, ← HB.out, h2]
    have hne : ((m : Int) == (n : Int)) = false := beq_int_false (by omega)
    go_enter Tryz.func179, Tryz.ntmps179
    go_wp2
    go_ret
    exact ⟨by rw [HR.out]; rfl, Fr.refl _ _⟩

end Go.Proofs.YtkjkpkmmojchiaaGreatDoor
