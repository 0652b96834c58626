/-
  Which line an operator stands on, which are signs, which kinds are places; no condition.
-/
import Derived.Test.YtekjfddcbcijdaaGreatDoorParE
namespace Go.Proofs.YtekjfddcbcijdaaGreatDoor
open Go.RowKit
set_option linter.unusedVariables false
set_option linter.unusedSimpArgs false

set_option maxRecDepth 100000 in
set_option maxHeartbeats 1000000 in
theorem lineOf_any (s : List UInt8) (w : World) : Calls Tryz.prog 73 #[.string ⟨s.toArray⟩] w fun e w' => e = .returned (.int .i64 (lineL s : Nat)) ∧ w' = w := by
  by_cases e0 : s = [61, 61]
  · subst e0
    go_enter Tryz.func73, Tryz.ntmps73
    go_wp2
    go_ret
    exact ⟨rfl, rfl⟩
  by_cases e1 : s = [33, 61]
  · subst e1
    go_enter Tryz.func73, Tryz.ntmps73
    go_wp2
    go_ret
    exact ⟨rfl, rfl⟩
  by_cases e2 : s = [60]
  · subst e2
    go_enter Tryz.func73, Tryz.ntmps73
    go_wp2
    go_ret
    exact ⟨rfl, rfl⟩
  by_cases e3 : s = [60, 61]
  · subst e3
    go_enter Tryz.func73, Tryz.ntmps73
    go_wp2
    go_ret
    exact ⟨rfl, rfl⟩
  by_cases e4 : s = [124]
  · subst e4
    go_enter Tryz.func73, Tryz.ntmps73
    go_wp2
    go_ret
    exact ⟨rfl, rfl⟩
  by_cases e5 : s = [94]
  · subst e5
    go_enter Tryz.func73, Tryz.ntmps73
    go_wp2
    go_ret
    exact ⟨rfl, rfl⟩
  by_cases e6 : s = [38]
  · subst e6
    go_enter Tryz.func73, Tryz.ntmps73
    go_wp2
    go_ret
    exact ⟨rfl, rfl⟩
  by_cases e7 : s = [60, 60]
  · subst e7
    go_enter Tryz.func73, Tryz.ntmps73
    go_wp2
    go_ret
    exact ⟨rfl, rfl⟩
  by_cases e8 : s = [62, 62]
  · subst e8
    go_enter Tryz.func73, Tryz.ntmps73
    go_wp2
    go_ret
    exact ⟨rfl, rfl⟩
  by_cases e9 : s = [43]
  · subst e9
    go_enter Tryz.func73, Tryz.ntmps73
    go_wp2
    go_ret
    exact ⟨rfl, rfl⟩
  by_cases e10 : s = [45]
  · subst e10
    go_enter Tryz.func73, Tryz.ntmps73
    go_wp2
    go_ret
    exact ⟨rfl, rfl⟩
  by_cases e11 : s = [42]
  · subst e11
    go_enter Tryz.func73, Tryz.ntmps73
    go_wp2
    go_ret
    exact ⟨rfl, rfl⟩
  by_cases e12 : s = [47]
  · subst e12
    go_enter Tryz.func73, Tryz.ntmps73
    go_wp2
    go_ret
    exact ⟨rfl, rfl⟩
  by_cases e13 : s = [37]
  · subst e13
    go_enter Tryz.func73, Tryz.ntmps73
    go_wp2
    go_ret
    exact ⟨rfl, rfl⟩
  have HV : Hid (lineL s = 0) := by unfold Hid lineL; simp [e0, e1, e2, e3, e4, e5, e6, e7, e8, e9, e10, e11, e12, e13]
  have b0 : (s == [61, 61]) = false := by simpa using e0
  have b1 : (s == [33, 61]) = false := by simpa using e1
  have b2 : (s == [60]) = false := by simpa using e2
  have b3 : (s == [60, 61]) = false := by simpa using e3
  have b4 : (s == [124]) = false := by simpa using e4
  have b5 : (s == [94]) = false := by simpa using e5
  have b6 : (s == [38]) = false := by simpa using e6
  have b7 : (s == [60, 60]) = false := by simpa using e7
  have b8 : (s == [62, 62]) = false := by simpa using e8
  have b9 : (s == [43]) = false := by simpa using e9
  have b10 : (s == [45]) = false := by simpa using e10
  have b11 : (s == [42]) = false := by simpa using e11
  have b12 : (s == [47]) = false := by simpa using e12
  have b13 : (s == [37]) = false := by simpa using e13
  clear e0 e1 e2 e3 e4 e5 e6 e7 e8 e9 e10 e11 e12 e13
  generalize lineL s = V at *
  go_enter Tryz.func73, Tryz.ntmps73
  go_wp2
  go_ret
  exact ⟨by rw [HV.out]; rfl, rfl⟩

set_option maxRecDepth 100000 in
set_option maxHeartbeats 1000000 in
theorem isSign_any (s : List UInt8) (w : World) : Calls Tryz.prog 93 #[.string ⟨s.toArray⟩] w fun e w' => e = .returned (.bool (isSg s)) ∧ w' = w := by
  by_cases e0 : s = [45]
  · subst e0
    go_enter Tryz.func93, Tryz.ntmps93
    go_wp2
    go_ret
    exact ⟨rfl, rfl⟩
  by_cases e1 : s = [33]
  · subst e1
    go_enter Tryz.func93, Tryz.ntmps93
    go_wp2
    go_ret
    exact ⟨rfl, rfl⟩
  by_cases e2 : s = [126]
  · subst e2
    go_enter Tryz.func93, Tryz.ntmps93
    go_wp2
    go_ret
    exact ⟨rfl, rfl⟩
  have HV : Hid (isSg s = false) := by unfold Hid isSg; simp [e0, e1, e2]
  have b0 : (s == [45]) = false := by simpa using e0
  have b1 : (s == [33]) = false := by simpa using e1
  have b2 : (s == [126]) = false := by simpa using e2
  clear e0 e1 e2
  generalize isSg s = V at *
  go_enter Tryz.func93, Tryz.ntmps93
  go_wp2
  go_ret
  exact ⟨by rw [HV.out]; rfl, rfl⟩

set_option maxRecDepth 100000 in
set_option maxHeartbeats 1000000 in
theorem isPlace_any (k : Nat) (w : World) : Calls Tryz.prog 91 #[.int .i64 (k : Nat)] w fun e w' => e = .returned (.bool (placeK k)) ∧ w' = w := by
  by_cases e17 : k = 17
  · subst e17
    go_enter Tryz.func91, Tryz.ntmps91
    go_wp2
    go_ret
    exact ⟨rfl, rfl⟩
  by_cases e20 : k = 20
  · subst e20
    go_enter Tryz.func91, Tryz.ntmps91
    go_wp2
    go_ret
    exact ⟨rfl, rfl⟩
  by_cases e21 : k = 21
  · subst e21
    go_enter Tryz.func91, Tryz.ntmps91
    go_wp2
    go_ret
    exact ⟨rfl, rfl⟩
  by_cases e30 : k = 30
  · subst e30
    go_enter Tryz.func91, Tryz.ntmps91
    go_wp2
    go_ret
    exact ⟨rfl, rfl⟩
  have HV : Hid (placeK k = false) := by unfold Hid placeK; simp [e17, e20, e21, e30]
  have b17 : ((k : Int) == 17) = false := beq_int_false (by omega)
  have b20 : ((k : Int) == 20) = false := beq_int_false (by omega)
  have b21 : ((k : Int) == 21) = false := beq_int_false (by omega)
  have b30 : ((k : Int) == 30) = false := beq_int_false (by omega)
  clear e17 e20 e21 e30
  generalize placeK k = V at *
  go_enter Tryz.func91, Tryz.ntmps91
  go_wp2
  go_ret
  exact ⟨by rw [HV.out]; rfl, rfl⟩
end Go.Proofs.YtekjfddcbcijdaaGreatDoor
