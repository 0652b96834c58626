/-
  Texts of the proof, in their order: DepW; conditions: as each says.
-/
import Derived.Test.YtnkjgggbiokfbaaGreatDoorMgKJCN
namespace Go.Proofs.YtnkjgggbiokfbaaGreatDoor
open Go.RowKit
set_option linter.unusedVariables false
set_option linter.unusedSimpArgs false

set_option maxRecDepth 100000 in
set_option maxHeartbeats 4000000 in
theorem deep_walk (n : Int) (t : ByteArray) (sq : Bool) (w : World) (T : Tabs w) : Calls Tryz.prog 5 #[.int .i64 n, .string t, .bool sq] w fun e w' => e = .returned (.bool true) ∧ Fr [] w w' := by
  have CA := awake_any w T
  go_enter Tryz.func5, Tryz.ntmps5
  go_wp2_with (go_at_call 9; refine CA.mono ?_)
  rintro e wA ⟨rfl, fA⟩
  clear CA
  have TA := T.fr fA (by simp)
  by_cases h0 : n < 0
  · go_wp2
    go_ret
    exact ⟨rfl, fA⟩
  by_cases h4 : 400 < n
  · go_wp2
    go_ret
    exact ⟨rfl, fA⟩
  by_cases h2 : (200 : Int) < (t.size : Int)
  · go_wp2
    go_ret
    exact ⟨rfl, fA⟩
  obtain ⟨m, rfl⟩ : ∃ m : Nat, n = (m : Int) := ⟨n.toNat, by omega⟩
  have hm : m ≤ 400 := by omega
  have ht2 : t.size ≤ 200 := by omega
  cases sq
  · go_wp2
    go_loopw [9, 10] (fun sv iv wr => ∃ (q : Nat) (S : ByteArray), q ≤ m ∧ iv = .int .i64 (q : Nat) ∧ sv = .string S ∧ S.size ≤ 16 + 2 * q ∧ Fr [] wA wr) (fun _ iv _ => m - (intOf iv).toNat)
    case atStart => exact ⟨0, _, Nat.zero_le _, rfl, rfl, by decide, Fr.refl _ _⟩
    case round =>
      obtain ⟨q, S, hq, rfl, rfl, hS, fr⟩ := hrel
      by_cases hlt : q < m
      · have hlt' : (q : Int) < (m : Int) := by omega
        have hq4 : (q : Int) ≤ 400 := by omega
        have hz : ¬ 9223372036854775807 < S.size + 1 := by omega
        go_wp2
        go_roundw
        case rel => exact ⟨q + 1, _, by omega, by go_num, rfl, by simp [ByteArray.size_append]; first | omega | (have : (ByteArray.mk #[40]).size = 1 := rfl; omega), fr⟩
        case measure => simp [intOf]; omega
      · have hlt' : ¬ ((q : Int) < (m : Int)) := by omega
        obtain ⟨S0, HS0⟩ : ∃ S0 : ByteArray, S0 = S := ⟨S, rfl⟩
        have hz : ¬ 9223372036854775807 < S.size + t.size := by omega
        have hSz : S.size ≤ 816 := by omega
        clear hS hq hlt HS0
        go_wp2
        go_loopw [9, 11] (fun sv iv wr => ∃ (q : Nat) (S : ByteArray), q ≤ m ∧ iv = .int .i64 (q : Nat) ∧ sv = .string S ∧ S.size ≤ 1016 + q ∧ Fr [] wA wr) (fun _ iv _ => m - (intOf iv).toNat)
        case atStart => exact ⟨0, _, Nat.zero_le _, rfl, rfl, by simp [ByteArray.size_append]; omega, fr⟩
        case round =>
          obtain ⟨q, S, hq, rfl, rfl, hS, fr⟩ := hrel
          by_cases hlt : q < m
          · have hlt' : (q : Int) < (m : Int) := by omega
            have hq4 : (q : Int) ≤ 400 := by omega
            have hz : ¬ 9223372036854775807 < S.size + 1 := by omega
            go_wp2
            go_roundw
            case rel => exact ⟨q + 1, _, by omega, by go_num, rfl, by simp [ByteArray.size_append]; first | omega | (have : (ByteArray.mk #[41]).size = 1 := rfl; omega), fr⟩
            case measure => simp [intOf]; omega
          · have hlt' : ¬ ((q : Int) < (m : Int)) := by omega
            have hz : ¬ 9223372036854775807 < S.size + 3 := by omega
            have HSS : Hid (S.size ≤ 1416) := by unfold Hid; omega
            clear hS hq hlt
            go_wp2_with fail
            have hS2 : (S ++ (⟨#[59, 32, 125]⟩ : ByteArray)).size ≤ 200000 := by
              have : (ByteArray.mk #[59, 32, 125]).size = 3 := rfl
              have := HSS.out
              simp [ByteArray.size_append]
              omega
            generalize S ++ (⟨#[59, 32, 125]⟩ : ByteArray) = S' at *
            have T1 := TA.fr fr (by simp)
            have C1 := prog_any S' wr hS2 T1
            have HSZ : Hid (S'.size ≤ 200000) := hS2
            clear hS2 HSS hz
            refine C1.mono ?_
            rintro e w2 ⟨hp, f2⟩
            obtain ⟨a, n', c, p, q2, L, rfl, hpq, hLn, hL, hn', ht, hpl, hw⟩ := rd_of HSZ.out hp
            have T2 := T1.fr f2 (by simp)
            have C2 := prgR_any S' w2 HSZ.out T2.len
            clear C1 hp
            go_wp2_with (go_at_call 11; refine C2.mono ?_)
            rintro e w3 ⟨hp2, f3⟩
            obtain ⟨a', n2, c', p', q', L', rfl, hpq', hLn', hL', hn2, ht', hpl', hw'⟩ := rd_of HSZ.out hp2
            have epq := hpq.trans hpq'.symm
            obtain ⟨rfl, rfl⟩ : p = p' ∧ q2 = q' := by simpa using epq
            have T3 := T2.fr f3 (by simp)
            have hB3 : w2.heap.size ≤ w3.heap.size := f3.size
            have C3 := written_any w2.heap.size L w3 a n' c hLn (hL.fr f3 (by simp)) (by omega) hB3 T3 ht hpl
            rw [hw] at C3
            have C4 := fun w4 (f4 : Fr [] w3 w4) => written_any w3.heap.size L' w4 a' n2 c' hLn' (hL'.fr f4 (by simp)) (by omega) f4.size (T3.fr f4 (by simp)) ht' hpl'
            simp only [hw'] at C4
            generalize wrtP S' = WS at *
            clear C2 hp2 hpq hpq' epq hL hL' ht ht' hpl hpl' hw hw'
            go_wp2_with (go_at_call 12; refine C3.mono ?_)
            rintro e w4 ⟨rfl, f4⟩
            have C5 := C4 w4 f4
            clear C3 C4
            go_wp2_with (go_at_call 12; refine C5.mono ?_)
            rintro e w5 ⟨rfl, f5⟩
            go_wp2
            go_ret
            exact ⟨by simp, ((((fA.trans fr).trans f2).trans f3).trans f4).trans f5⟩
  · go_wp2
    go_loopw [9, 10] (fun sv iv wr => ∃ (q : Nat) (S : ByteArray), q ≤ m ∧ iv = .int .i64 (q : Nat) ∧ sv = .string S ∧ S.size ≤ 16 + 2 * q ∧ Fr [] wA wr) (fun _ iv _ => m - (intOf iv).toNat)
    case atStart => exact ⟨0, _, Nat.zero_le _, rfl, rfl, by decide, Fr.refl _ _⟩
    case round =>
      obtain ⟨q, S, hq, rfl, rfl, hS, fr⟩ := hrel
      by_cases hlt : q < m
      · have hlt' : (q : Int) < (m : Int) := by omega
        have hq4 : (q : Int) ≤ 400 := by omega
        have hz : ¬ 9223372036854775807 < S.size + 2 := by omega
        go_wp2
        go_roundw
        case rel => exact ⟨q + 1, _, by omega, by go_num, rfl, by simp [ByteArray.size_append]; first | omega | (have : (ByteArray.mk #[120, 91]).size = 2 := rfl; omega), fr⟩
        case measure => simp [intOf]; omega
      · have hlt' : ¬ ((q : Int) < (m : Int)) := by omega
        obtain ⟨S0, HS0⟩ : ∃ S0 : ByteArray, S0 = S := ⟨S, rfl⟩
        have hz : ¬ 9223372036854775807 < S.size + t.size := by omega
        have hSz : S.size ≤ 816 := by omega
        clear hS hq hlt HS0
        go_wp2
        go_loopw [9, 11] (fun sv iv wr => ∃ (q : Nat) (S : ByteArray), q ≤ m ∧ iv = .int .i64 (q : Nat) ∧ sv = .string S ∧ S.size ≤ 1016 + q ∧ Fr [] wA wr) (fun _ iv _ => m - (intOf iv).toNat)
        case atStart => exact ⟨0, _, Nat.zero_le _, rfl, rfl, by simp [ByteArray.size_append]; omega, fr⟩
        case round =>
          obtain ⟨q, S, hq, rfl, rfl, hS, fr⟩ := hrel
          by_cases hlt : q < m
          · have hlt' : (q : Int) < (m : Int) := by omega
            have hq4 : (q : Int) ≤ 400 := by omega
            have hz : ¬ 9223372036854775807 < S.size + 1 := by omega
            go_wp2
            go_roundw
            case rel => exact ⟨q + 1, _, by omega, by go_num, rfl, by simp [ByteArray.size_append]; first | omega | (have : (ByteArray.mk #[93]).size = 1 := rfl; omega), fr⟩
            case measure => simp [intOf]; omega
          · have hlt' : ¬ ((q : Int) < (m : Int)) := by omega
            have hz : ¬ 9223372036854775807 < S.size + 3 := by omega
            have HSS : Hid (S.size ≤ 1416) := by unfold Hid; omega
            clear hS hq hlt
            go_wp2_with fail
            have hS2 : (S ++ (⟨#[59, 32, 125]⟩ : ByteArray)).size ≤ 200000 := by
              have : (ByteArray.mk #[59, 32, 125]).size = 3 := rfl
              have := HSS.out
              simp [ByteArray.size_append]
              omega
            generalize S ++ (⟨#[59, 32, 125]⟩ : ByteArray) = S' at *
            have T1 := TA.fr fr (by simp)
            have C1 := prog_any S' wr hS2 T1
            have HSZ : Hid (S'.size ≤ 200000) := hS2
            clear hS2 HSS hz
            refine C1.mono ?_
            rintro e w2 ⟨hp, f2⟩
            obtain ⟨a, n', c, p, q2, L, rfl, hpq, hLn, hL, hn', ht, hpl, hw⟩ := rd_of HSZ.out hp
            have T2 := T1.fr f2 (by simp)
            have C2 := prgR_any S' w2 HSZ.out T2.len
            clear C1 hp
            go_wp2_with (go_at_call 11; refine C2.mono ?_)
            rintro e w3 ⟨hp2, f3⟩
            obtain ⟨a', n2, c', p', q', L', rfl, hpq', hLn', hL', hn2, ht', hpl', hw'⟩ := rd_of HSZ.out hp2
            have epq := hpq.trans hpq'.symm
            obtain ⟨rfl, rfl⟩ : p = p' ∧ q2 = q' := by simpa using epq
            have T3 := T2.fr f3 (by simp)
            have hB3 : w2.heap.size ≤ w3.heap.size := f3.size
            have C3 := written_any w2.heap.size L w3 a n' c hLn (hL.fr f3 (by simp)) (by omega) hB3 T3 ht hpl
            rw [hw] at C3
            have C4 := fun w4 (f4 : Fr [] w3 w4) => written_any w3.heap.size L' w4 a' n2 c' hLn' (hL'.fr f4 (by simp)) (by omega) f4.size (T3.fr f4 (by simp)) ht' hpl'
            simp only [hw'] at C4
            generalize wrtP S' = WS at *
            clear C2 hp2 hpq hpq' epq hL hL' ht ht' hpl hpl' hw hw'
            go_wp2_with (go_at_call 12; refine C3.mono ?_)
            rintro e w4 ⟨rfl, f4⟩
            have C5 := C4 w4 f4
            clear C3 C4
            go_wp2_with (go_at_call 12; refine C5.mono ?_)
            rintro e w5 ⟨rfl, f5⟩
            go_wp2
            go_ret
            exact ⟨by simp, ((((fA.trans fr).trans f2).trans f3).trans f4).trans f5⟩
end Go.Proofs.YtnkjgggbiokfbaaGreatDoor
