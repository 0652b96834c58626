/-
  Which texts and kids a node may have, by the document; condition: the kinds lie in a row as told.
-/
import Derived.Test.YtajkkjohoedhaaaDoorTreeG
namespace Go.Proofs.YtajkkjohoedhaaaDoor
open Go.RowKit
set_option linter.unusedVariables false
set_option linter.unusedSimpArgs false

theorem binAt (k : Nat) (h : k < 14) : (binaries.map fun l => Value.string ⟨l.toArray⟩)[k]? = some (.string ⟨(binaries.getD k []).toArray⟩) := by
  have hl : binaries.length = 14 := rfl
  rw [List.getElem?_map, List.getElem?_eq_getElem (by omega)]
  simp [List.getD, List.getElem?_eq_getElem (l := binaries) (i := k) (by omega)]
theorem binL_toList (s : ByteArray) : binaries.contains s.toList = binL s := by rw [Lib.toList_data]; rfl

set_option maxRecDepth 100000 in
theorem Operator_any (s : ByteArray) (w : World) :
    Calls Tryd.prog 39 #[.string s] w fun e w' => e = .returned (.bool (binL s)) ∧ Fr [] w w' := by
  go_enter Tryd.func39, Tryd.ntmps39
  go_wp2
  generalize hw1 : w.alloc _ = w1
  have hF : Fr [] w w1 := by rw [← hw1]; exact (Fr.refl _ _).alloc _
  have hB : w1.heap[w.heap.size]? = some (.cells (binaries.map fun l => Value.string ⟨l.toArray⟩).toArray 9) := by rw [← hw1]; exact heap_alloc_new w _
  have hC : ∀ k, k < 14 → w1.cell? ⟨w.heap.size, k, none⟩ = some (.string ⟨(binaries.getD k []).toArray⟩) := fun k hk => by
    unfold World.cell?
    rw [hB]
    simpa using binAt k hk
  clear hw1 hB
  generalize w.heap.size = g at hC ⊢
  go_loop [7] (fun i => ∃ k : Nat, k ≤ 14 ∧ i = .int .i64 k ∧ ∀ j, j < k → s.toList ≠ binaries.getD j []) (fun i => 14 - (intOf i).toNat)
  case atStart => exact ⟨0, by omega, rfl, fun j hj => by omega⟩
  case round =>
    obtain ⟨k, hk, rfl, hno⟩ := hrel
    have hno' : Hid (∀ j, j < k → s.toList ≠ binaries.getD j []) := hno
    clear hno
    by_cases hlt : k < 14
    · have hlt' : (k : Int) < 14 := by omega
      have hc := hC k hlt
      clear hC
      have hq : (s.toList == (⟨(binaries.getD k []).toArray⟩ : ByteArray).toList) = decide (s.toList = binaries.getD k []) := by
        rw [Lib.toList_data (⟨(binaries.getD k []).toArray⟩ : ByteArray), Bool.eq_iff_iff]
        simp
      by_cases he : s.toList = binaries.getD k []
      · have hq' : (s.toList == (⟨(binaries.getD k []).toArray⟩ : ByteArray).toList) = true := by rw [hq]; exact decide_eq_true he
        have hw : binL s = true := by
          rw [← binL_toList, he]
          simp only [List.contains_iff_mem]
          have : k < binaries.length := hlt
          simp [List.getD, List.getElem?_eq_getElem this]
        have HW : Hid (binL s = true) := hw
        clear hw hq he
        generalize (⟨(binaries.getD k []).toArray⟩ : ByteArray) = x at *
        go_wp2
        go_ret
        refine ⟨?_, hF⟩; rw [HW.out]; rfl
      · have hq' : (s.toList == (⟨(binaries.getD k []).toArray⟩ : ByteArray).toList) = false := by rw [hq]; exact decide_eq_false he
        have HE : Hid (¬ s.toList = binaries.getD k []) := he
        clear hq he
        generalize (⟨(binaries.getD k []).toArray⟩ : ByteArray) = x at *
        go_wp2
        go_round
        case rel => exact ⟨k + 1, hlt, by go_num, fun j hj => by
          by_cases hjk : j = k
          · rw [hjk]; exact HE.out
          · exact hno'.out j (by omega)⟩
        case measure => simp [intOf]; omega
    · have hlt' : ¬ (k : Int) < 14 := by omega
      have hw : binL s = false := by
        have hk' : k = 14 := by omega
        subst hk'
        rw [← binL_toList, Bool.eq_false_iff]
        intro h
        obtain ⟨j, hj, e⟩ := List.getElem_of_mem (List.contains_iff_mem.1 h)
        refine hno'.out j hj ?_
        rw [← e]
        simp [List.getD, List.getElem?_eq_getElem hj]
      have HW : Hid (binL s = false) := hw
      clear hw
      go_wp2
      go_ret
      refine ⟨?_, hF⟩; rw [HW.out]; rfl

set_option maxRecDepth 100000 in
theorem Expr_any (k : Int) (w : World) : Calls Tryd.prog 43 #[.int .i64 k] w fun e w' => e = .returned (.bool (isEx k)) ∧ w' = w := by
  have hI : Hid (isEx k = decide (15 ≤ k ∧ k ≤ 30)) := rfl
  generalize isEx k = R at *
  by_cases h1 : 15 ≤ k
  · by_cases h2 : k ≤ 30
    · have HR : Hid (R = true) := by unfold Hid; rw [hI.out]; simp; omega
      go_enter Tryd.func43, Tryd.ntmps43
      go_wp2
      go_ret
      exact ⟨by rw [HR.out]; rfl, rfl⟩
    · have HR : Hid (R = false) := by unfold Hid; rw [hI.out]; simp; omega
      go_enter Tryd.func43, Tryd.ntmps43
      go_wp2
      go_ret
      exact ⟨by rw [HR.out]; rfl, rfl⟩
  · have HR : Hid (R = false) := by unfold Hid; rw [hI.out]; simp; omega
    go_enter Tryd.func43, Tryd.ntmps43
    go_wp2
    go_ret
    exact ⟨by rw [HR.out]; rfl, rfl⟩
set_option maxRecDepth 100000 in
theorem Stmt_any (k : Int) (w : World) : Calls Tryd.prog 41 #[.int .i64 k] w fun e w' => e = .returned (.bool (isSt k)) ∧ w' = w := by
  have hI : Hid (isSt k = decide (5 ≤ k ∧ k ≤ 13)) := rfl
  generalize isSt k = R at *
  by_cases h1 : 5 ≤ k
  · by_cases h2 : k ≤ 13
    · have HR : Hid (R = true) := by unfold Hid; rw [hI.out]; simp; omega
      go_enter Tryd.func41, Tryd.ntmps41
      go_wp2
      go_ret
      exact ⟨by rw [HR.out]; rfl, rfl⟩
    · have HR : Hid (R = false) := by unfold Hid; rw [hI.out]; simp; omega
      go_enter Tryd.func41, Tryd.ntmps41
      go_wp2
      go_ret
      exact ⟨by rw [HR.out]; rfl, rfl⟩
  · have HR : Hid (R = false) := by unfold Hid; rw [hI.out]; simp; omega
    go_enter Tryd.func41, Tryd.ntmps41
    go_wp2
    go_ret
    exact ⟨by rw [HR.out]; rfl, rfl⟩

def allE (f : Int → Bool) (ks : List Int) : Bool := ks.all f
theorem allE_at {f : Int → Bool} {K : List Int} {p : Nat} {q : Int} (h : K[p]? = some q) : allE f (K.drop p) = (f q && allE f (K.drop (p + 1))) := by
  obtain ⟨hl, he⟩ := List.getElem?_eq_some_iff.1 h
  rw [List.drop_eq_getElem_cons hl, he]
  rfl

set_option maxRecDepth 100000 in
theorem all_any (B : Nat) (w : World) (K : List Int) (a : Option Addr) (m c : Nat) (k : Int) (hl : K.length = m) (hm : m ≤ maxLen) (hK : KAt B w a K) :
    Calls Tryd.prog 40 #[.slice a m c, .int .i64 k] w fun e w' => e = .returned (.bool (allE (· == k) K)) ∧ w' = w := by
  unfold maxLen at hm
  have HL : Hid (K.length = m) := hl
  clear hl
  go_enter Tryd.func40, Tryd.ntmps40
  go_wp2
  go_loop [9] (fun i => ∃ p : Nat, p ≤ m ∧ i = .int .i64 p ∧ Hid (allE (· == k) (K.drop p) = allE (· == k) K)) (fun i => m - (intOf i).toNat)
  case atStart => exact ⟨0, Nat.zero_le _, rfl, rfl⟩
  case round =>
    obtain ⟨p, hp, rfl, he⟩ := hrel
    by_cases hlt : p < m
    · have hx : K[p]? = some (K[p]'(by rw [HL.out]; exact hlt)) := List.getElem?_eq_getElem _
      generalize K[p]'(by rw [HL.out]; exact hlt) = q at hx
      obtain ⟨b, o, rfl, hb, hc⟩ := hK p q hx
      have HS : Hid (allE (· == k) (K.drop p) = ((q == k) && allE (· == k) (K.drop (p + 1)))) := allE_at hx
      clear hx hK
      by_cases hq : q = k
      · have HR : Hid (allE (· == k) (K.drop (p + 1)) = allE (· == k) K) := by unfold Hid; rw [← he.out, HS.out, hq]; simp
        clear HS
        subst hq
        go_wp2
        go_round
        case rel => exact ⟨p + 1, hlt, by go_num, HR⟩
        case measure => simp [intOf]; omega
      · have hq' : (q == k) = false := by simp [hq]
        have HR : Hid (allE (· == k) K = false) := by unfold Hid; rw [← he.out, HS.out, hq', Bool.false_and]
        clear HS
        go_wp2
        all_goals first | (exfalso; omega) | skip
        go_ret
        exact ⟨by rw [HR.out]; rfl, rfl⟩
    · have HE : Hid (allE (· == k) K = true) := by
        unfold Hid
        rw [← he.out, List.drop_of_length_le (by rw [HL.out]; omega)]
        rfl
      go_wp2
      go_ret
      exact ⟨by rw [HE.out]; rfl, rfl⟩

set_option maxRecDepth 100000 in
theorem exprs_any (B : Nat) (w : World) (K : List Int) (a : Option Addr) (m c n : Nat) (hl : K.length = m) (hm : m ≤ maxLen) (hn : n ≤ maxLen) (hK : KAt B w a K) :
    Calls Tryd.prog 42 #[.slice a m c, .int .i64 n] w fun e w' => e = .returned (.bool (allE isEx K && decide (m = n))) ∧ w' = w := by
  unfold maxLen at hm hn
  have HL : Hid (K.length = m) := hl
  have HD : Hid (decide (m = n) = ((m : Int) == (n : Int))) := by unfold Hid; rw [Bool.eq_iff_iff]; simp; omega
  rw [HD.out]
  clear hl
  go_enter Tryd.func42, Tryd.ntmps42
  go_wp2
  go_loop [9] (fun i => ∃ p : Nat, p ≤ m ∧ i = .int .i64 p ∧ Hid (allE isEx (K.drop p) = allE isEx K)) (fun i => m - (intOf i).toNat)
  case atStart => exact ⟨0, Nat.zero_le _, rfl, rfl⟩
  case round =>
    obtain ⟨p, hp, rfl, he⟩ := hrel
    by_cases hlt : p < m
    · have hx : K[p]? = some (K[p]'(by rw [HL.out]; exact hlt)) := List.getElem?_eq_getElem _
      generalize K[p]'(by rw [HL.out]; exact hlt) = q at hx
      obtain ⟨b, o, rfl, hb, hc⟩ := hK p q hx
      have HS : Hid (allE isEx (K.drop p) = (isEx q && allE isEx (K.drop (p + 1)))) := allE_at hx
      have C := fun w => Expr_any q w
      clear hx hK
      cases hq : isEx q with
      | true =>
        rw [hq] at C
        have HR : Hid (allE isEx (K.drop (p + 1)) = allE isEx K) := by unfold Hid; rw [← he.out, HS.out, hq]; simp
        clear HS
        go_wp2_with (go_at_call 43; refine (C _).mono ?_; rintro e w' ⟨rfl, rfl⟩)
        go_round
        case rel => exact ⟨p + 1, hlt, by go_num, HR⟩
        case measure => simp [intOf]; omega
      | false =>
        rw [hq] at C
        have HR : Hid (allE isEx K = false) := by unfold Hid; rw [← he.out, HS.out, hq, Bool.false_and]
        clear HS
        go_wp2_with (go_at_call 43; refine (C _).mono ?_; rintro e w' ⟨rfl, rfl⟩)
        go_ret
        exact ⟨by rw [HR.out]; rfl, rfl⟩
    · have HE : Hid (allE isEx K = true) := by
        unfold Hid
        rw [← he.out, List.drop_of_length_le (by rw [HL.out]; omega)]
        rfl
      go_wp2
      go_ret
      exact ⟨by rw [HE.out]; rfl, rfl⟩
end Go.Proofs.YtajkkjohoedhaaaDoor
