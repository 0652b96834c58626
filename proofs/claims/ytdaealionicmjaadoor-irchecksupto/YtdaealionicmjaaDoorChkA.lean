/-
  Whether a letter stands in a text, by the document; condition: the text is short.
-/
import Derived.Test.YtdaealionicmjaaDoorIrE
import Derived.Test.YtdaealionicmjaaDoorIrQ
namespace Go.Proofs.YtdaealionicmjaaDoor
open Go.RowKit
set_option linter.unusedVariables false
set_option linter.unusedSimpArgs false

theorem hasL_at {R : List UInt8} {p : Nat} (h : p < R.length) (c : Nat) : hasL (R.drop p) c = (R[p].toNat == c || hasL (R.drop (p + 1)) c) := by
  rw [List.drop_eq_getElem_cons h]
  rfl

set_option maxRecDepth 100000 in
set_option maxHeartbeats 4000000 in
theorem has_any (R : List UInt8) (hR : R.length ≤ 1000) (c : Nat) (w : World) :
    Calls Tryd.prog 42 #[.string (txt R), .int .u8 c] w fun e w' => e = .returned (.bool (hasL R c)) ∧ w' = w := by
  have HSZ : Hid ((txt R).size = R.length) := txt_size R
  have HAT : Hid (∀ p (h : p < (txt R).size), hasL (R.drop p) c = (((txt R)[p]'h).toNat == c || hasL (R.drop (p + 1)) c)) := by
    intro p h
    have h' : p < R.length := by rw [← HSZ.out]; exact h
    rw [hasL_at h', index_txt R p h']
  have HEN : Hid (∀ p, (txt R).size ≤ p → hasL (R.drop p) c = false) := by
    intro p h
    rw [List.drop_of_length_le (by rw [← HSZ.out]; exact h)]
    rfl
  have hsm : (txt R).size ≤ 1000 := by rw [HSZ.out]; exact hR
  have HV : Hid (hasL (R.drop 0) c = hasL R c) := rfl
  clear hR HSZ
  generalize txt R = SS at *
  have hsI : (SS.size : Int) ≤ 1000 := by omega
  go_enter Tryd.func42, Tryd.ntmps42
  go_wp2
  go_loopw [5] (fun k wr => ∃ p : Nat, p ≤ SS.size ∧ k = .int .i64 p ∧ wr = w ∧ Hid (hasL (R.drop p) c = hasL R c)) (fun k _ => SS.size - (intOf k).toNat)
  case atStart => exact ⟨0, Nat.zero_le _, rfl, rfl, HV⟩
  case round =>
    obtain ⟨p, hp, rfl, rfl, he⟩ := hrel
    by_cases hlt : p < SS.size
    · have hA : Hid _ := HAT.out p hlt
      have hpI : (p : Int) < SS.size := by omega
      clear HAT HEN HV
      generalize hch : SS[p]'hlt = ch at *
      by_cases e1 : (ch.toNat : Int) = c
      · have e2 : ch.toNat = c := by omega
        have HY : Hid (hasL R c = true) := by unfold Hid; rw [← he.out, hA.out, e2]; simp
        clear hA he
        have d1 : ((ch.toNat : Int) == (c : Int)) = true := by simpa using e1
        clear e1 e2
        go_wp2
        go_ret
        exact ⟨by rw [HY.out]; rfl, rfl⟩
      · have e2 : ¬ ch.toNat = c := by omega
        have HY : Hid (hasL (R.drop (p + 1)) c = hasL R c) := by
          unfold Hid
          rw [← he.out, hA.out, show (ch.toNat == c) = false by simpa using e2, Bool.false_or]
        clear hA he
        have d1 : ((ch.toNat : Int) == (c : Int)) = false := beq_int_false e1
        clear e1 e2
        go_wp2
        go_roundw
        case rel => exact ⟨p + 1, hlt, by go_num, by first | rfl | trivial, HY⟩
        case measure => simp [intOf]; omega
    · have HN : Hid (hasL R c = false) := by unfold Hid; rw [← he.out]; exact HEN.out p (by omega)
      have hpI : ¬ (p : Int) < SS.size := by omega
      clear HAT HEN HV he
      go_wp2
      go_ret
      exact ⟨by rw [HN.out]; rfl, rfl⟩
end Go.Proofs.YtdaealionicmjaaDoor
