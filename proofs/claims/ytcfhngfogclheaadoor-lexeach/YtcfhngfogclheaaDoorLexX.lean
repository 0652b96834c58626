/-
  How long a sign is, by the document; no condition.
-/
import Derived.Test.YtcfhngfogclheaaDoorLexW
import Derived.Lib.SlBytesConst
namespace Go.Proofs.YtcfhngfogclheaaDoor
open Go.RowKit

theorem und5 : Tryd.prog.underlying 5 = some (.int .u8) := by kernel_rfl
def ones : List UInt8 := [40, 41, 123, 125, 91, 93, 44, 59, 46, 61, 43, 45, 42, 47, 37, 38, 124, 94, 60, 33, 126]
theorem pref2 {s : ByteArray} {i : Nat} (h : i < s.size) (a b : UInt8) (hb : b.toNat ≠ 0) : [a, b].isPrefixOf (s.data.toList.drop i) = (decide (s[i].toNat = a.toNat) && decide (atB s (i + 1) = b.toNat)) := by
  rw [drop_cons s i h, Bool.eq_iff_iff]
  by_cases h1 : i + 1 < s.size
  · rw [drop_cons s (i + 1) h1, atB_in h1]
    simp only [List.isPrefixOf, Bool.and_true, Bool.and_eq_true, beq_iff_eq, decide_eq_true_eq, UInt8.toNat_inj]
    constructor <;> rintro ⟨x, y⟩ <;> exact ⟨x.symm, y.symm⟩
  · rw [drop_end s (i + 1) (by omega), atB_out h1]
    simp [List.isPrefixOf]
    intro _ e
    exact hb e.symm
theorem pref1 {s : ByteArray} {i : Nat} (h : i < s.size) (a : UInt8) : [a].isPrefixOf (s.data.toList.drop i) = decide (s[i].toNat = a.toNat) := by
  rw [drop_cons s i h, Bool.eq_iff_iff]
  simp only [List.isPrefixOf, Bool.and_true, beq_iff_eq, decide_eq_true_eq, UInt8.toNat_inj]
  exact eq_comm
theorem two_at (k : Nat) (h : k < 5) : ∃ a b : UInt8, signs.getD k [] = [a, b] ∧ b.toNat ≠ 0 := by
  match k, h with
  | 0, _ => exact ⟨60, 60, rfl, by decide⟩
  | 1, _ => exact ⟨62, 62, rfl, by decide⟩
  | 2, _ => exact ⟨61, 61, rfl, by decide⟩
  | 3, _ => exact ⟨33, 61, rfl, by decide⟩
  | 4, _ => exact ⟨60, 61, rfl, by decide⟩
theorem one_at (k : Nat) (h : k < 21) : signs.getD (5 + k) [] = [ones.getD k 0] := by
  have e : signs = signs.take 5 ++ ones.map (fun c => [c]) := by decide
  have hl : k < ones.length := h
  rw [e, List.getD, List.getElem?_append_right (by decide +revert)]
  have : 5 + k - (signs.take 5).length = k := by rw [show (signs.take 5).length = 5 from rfl]; omega
  rw [this]
  simp [List.getD, List.getElem?_eq_getElem hl]
theorem onesAt (k : Nat) (h : k < 21) : (ones.map fun c => Value.int .u8 c.toNat)[k]? = some (.int .u8 ((ones.getD k 0).toNat : Nat)) := by
  have hl : k < ones.length := h
  rw [List.getElem?_map, List.getElem?_eq_getElem hl]
  simp [List.getD, List.getElem?_eq_getElem hl]
theorem twosAt (k : Nat) (h : k < 5) : ((signs.take 5).map fun l => Value.string ⟨l.toArray⟩)[k]? = some (.string (sgB k)) := by
  have hl : k < (signs.take 5).length := h
  have hl2 : k < signs.length := by rw [show signs.length = 26 from rfl]; omega
  rw [List.getElem?_map, List.getElem?_eq_getElem hl]
  simp [sgB, List.getD, List.getElem?_eq_getElem hl2]

theorem wrap_le {n : Int} (h0 : 0 ≤ n) (h1 : n ≤ 2 ^ 41) : IntKind.i64.wrap n = n := by
  exact Go.wrap_small n h0 (by omega)

set_option maxRecDepth 100000 in
set_option maxHeartbeats 1000000 in
theorem signR_any (s : ByteArray) (i : Nat) (w : World) (hs : s.size ≤ 2 ^ 40) (hi : i < s.size) :
    Calls Tryd.prog 27 #[.string s, .int .i64 i] w fun e w' => e = .returned (.int .i64 (signL (s.data.toList.drop i))) ∧ Fr [] w w' := by
  have hat := fun w => at_any s (i + 1) w (by unfold maxLen; omega)
  have hat2 : ∀ w, Calls Tryd.prog 41 #[.string s, .int .i64 ((i : Int) + 1)] w fun e w' => e = .returned (.int .u8 (atB s (i + 1))) ∧ w' = w := fun w => by simpa using hat w
  clear hat
  have hwr : IntKind.i64.wrap ((i : Int) + 1) = (i : Int) + 1 := wrap_le (by omega) (by omega)
  have hat3 : ∀ w, Calls Tryd.prog 41 #[.string s, .int .i64 (IntKind.i64.wrap ((i : Int) + 1))] w fun e w' => e = .returned (.int .u8 (atB s (i + 1))) ∧ w' = w := by rw [hwr]; exact hat2
  clear hwr
  have hA := atB_lt s (i + 1)
  have hbi := byte_lt s[i]
  go_enter Tryd.func27, Tryd.ntmps27
  go_wp2
  generalize hw1 : w.alloc _ = w1
  have hF : Fr [] w w1 := by rw [← hw1]; exact (Fr.refl _ _).alloc _
  have hB : w1.heap[w.heap.size]? = some (.cells ((signs.take 5).map fun l => Value.string ⟨l.toArray⟩).toArray 9) := by rw [← hw1]; exact heap_alloc_new w _
  have hC : ∀ k, k < 5 → w1.cell? ⟨w.heap.size, k, none⟩ = some (.string (sgB k)) := fun k hk => by
    unfold World.cell?
    rw [hB]
    simpa using twosAt k hk
  clear hw1 hB
  generalize w.heap.size = g at hC ⊢
  go_loopg [11] 5 (fun h j wr => ∃ k : Nat, k + h = 5 ∧ j = .int .i64 k ∧ (∃ n, wr = w1.drewN n) ∧ Hid (∀ j, j < k → (signs.getD j []).isPrefixOf (s.data.toList.drop i) = false))
  case atStart => exact ⟨0, rfl, rfl, ⟨0, rfl⟩, fun j h => by omega⟩
  case round =>
    obtain ⟨k, hkg, rfl, ⟨n, hwr⟩, hno⟩ := hrel
    cases gk with
    | zero =>
      subst hwr
      have hlt : ¬ ((k : Int) < 5) := by omega
      have hk5 : k = 5 := by omega
      have kc : ∀ (C : Array Value) (m c : Nat), (convert 42 42 (.slice (some ⟨w1.heap.size, 0, none⟩) m c)).run Tryd.prog ((w1.drewN n).alloc (.cells C 5)) = .ok (.slice (some ⟨w1.heap.size, 0, none⟩) m c) ((w1.drewN n).alloc (.cells C 5 (C.size, C.size + 1))) := fun C m c => Lib.run_convert_bytes_const (P := Tryd.prog) (w1.drewN n) 42 5 C m c under42 und5
      clear hC hat2 hat3 hA
      have HK5 : Hid (k = 5) := hk5
      clear hk5 hkg
      have hF1 : Fr [] w (w1.drewN n) := hF.drewN n
      have hsz1 : (w1.drewN n).heap.size = w1.heap.size := rfl
      go_wp2
      generalize hw2 : World.alloc (w1.drewN n) _ = w2
      have hF2 : Fr [] w w2 := by rw [← hw2]; exact hF1.alloc _
      have hB2 : w2.heap[w1.heap.size]? = some (.cells (ones.map fun c => Value.int .u8 c.toNat).toArray 5 (21, 22)) := by rw [← hw2]; exact heap_alloc_new (w1.drewN n) _
      have hC2 : ∀ k, k < 21 → w2.cell? ⟨w1.heap.size, k, none⟩ = some (.int .u8 ((ones.getD k 0).toNat : Nat)) := fun k hk => by
        unfold World.cell?
        rw [hB2]
        simpa using onesAt k hk
      clear hw2 hB2 kc hsz1
      generalize w1.heap.size = g2 at hC2 ⊢
      go_loopg [34] 21 (fun h j wr => ∃ m : Nat, m + h = 21 ∧ j = .int .i64 m ∧ wr = w2 ∧ Hid (∀ j, j < 5 + m → (signs.getD j []).isPrefixOf (s.data.toList.drop i) = false))
      case atStart => exact ⟨0, rfl, rfl, rfl, fun j h => hno.out j (by have := HK5.out; omega)⟩
      case round =>
        obtain ⟨m, hmg, rfl, rfl, hno2⟩ := hrel
        cases gk with
        | zero =>
          have hlt2 : ¬ ((m : Int) < 21) := by omega
          have hz : signL (s.data.toList.drop i) = 0 := sign_none (fun j hj => hno2.out j (by omega))
          have HZ : Hid _ := hz
          clear hz hC2
          go_wp2
          go_ret
          refine ⟨?_, hF2⟩; rw [HZ.out]; rfl
        | succ h =>
          have hlt2 : (m : Int) < 21 := by omega
          have hc := hC2 m (by omega)
          have h1 := one_at m (by omega)
          have hp1 := pref1 hi (ones.getD m 0)
          rw [← h1] at hp1
          have hb1 := byte_lt (ones.getD m 0)
          have hfd : Hid ((signs.getD (5 + m) []).isPrefixOf (s.data.toList.drop i) = true → signL (s.data.toList.drop i) = 1) := fun hp => by
            rw [sign_found (k := 5 + m) (by omega) hno2.out hp, h1]; rfl
          have hnn : Hid ((signs.getD (5 + m) []).isPrefixOf (s.data.toList.drop i) = false → ∀ j, j < 5 + (m + 1) → (signs.getD j []).isPrefixOf (s.data.toList.drop i) = false) := fun hp j hj => by
            by_cases hjm : j = 5 + m
            · rw [hjm]; exact hp
            · exact hno2.out j (by omega)
          rw [hp1] at hfd hnn
          clear hC2 h1 hp1 hno2
          generalize (ones.getD m 0).toNat = q at *
          by_cases hq : s[i].toNat = q
          · have hq' : ((s[i].toNat : Int) == q) = true := by simp; omega
            have hz := hfd.out (decide_eq_true hq)
            have HZ : Hid _ := hz
            clear hz hfd hnn hq
            go_wp2
            go_ret
            refine ⟨?_, hF2⟩; rw [HZ.out]; rfl
          · have hq' : ((s[i].toNat : Int) == q) = false := beq_int_false (by omega)
            have hz := hnn.out (decide_eq_false hq)
            have HZ : Hid _ := hz
            clear hz hfd hnn hq
            go_wp2
            go_roundg h
            case measure => omega
            case rel => exact ⟨m + 1, by omega, by go_num, rfl, HZ⟩
    | succ h =>
      have hlt : (k : Int) < 5 := by omega
      have hk : wr.cell? ⟨g, k, none⟩ = some (.string (sgB k)) := by rw [hwr]; exact hC k (by omega)
      have hFw : Fr [] w wr := by rw [hwr]; exact hF.drewN n
      have HWR : Hid (wr = w1.drewN n) := hwr
      clear hC hwr
      obtain ⟨a, b, hab, hb0⟩ := two_at k (by omega)
      have hG : sgB k = ⟨#[a, b]⟩ := by unfold sgB; rw [hab]
      have hG2 : (sgB k).size = 2 := by rw [hG]; rfl
      have l0 : 0 < (sgB k).size := by omega
      have l1 : 1 < (sgB k).size := by omega
      have l1' : (1 : Int) < (sgB k).size := by omega
      have ha : (sgB k)[0]'l0 = a := by simp only [hG]; rfl
      have hb : (sgB k)[1]'l1 = b := by simp only [hG]; rfl
      rw [← ha, ← hb] at hab
      rw [← hb] at hb0
      have hp2 := pref2 hi ((sgB k)[0]'l0) ((sgB k)[1]'l1) hb0
      rw [← hab] at hp2
      have hfd : Hid ((signs.getD k []).isPrefixOf (s.data.toList.drop i) = true → signL (s.data.toList.drop i) = 2) := fun hp => by
        rw [sign_found (by omega) hno.out hp, hab]; rfl
      have hnn : Hid ((signs.getD k []).isPrefixOf (s.data.toList.drop i) = false → ∀ j, j < k + 1 → (signs.getD j []).isPrefixOf (s.data.toList.drop i) = false) := fun hp j hj => by
        by_cases hjm : j = k
        · rw [hjm]; exact hp
        · exact hno.out j (by omega)
      rw [hp2] at hfd hnn
      have ba := byte_lt ((sgB k)[0]'l0)
      have bb := byte_lt ((sgB k)[1]'l1)
      clear hG hab hno hp2 ha hb hG2
      generalize sgB k = G at *
      generalize atB s (i + 1) = A at *
      by_cases h0 : s[i].toNat = G[0].toNat
      · have h0' : ((s[i].toNat : Int) == G[0].toNat) = true := by simp; omega
        by_cases h1 : A = G[1].toNat
        · have h1' : ((A : Int) == G[1].toNat) = true := by simp; omega
          have hz := hfd.out (by rw [decide_eq_true h0, decide_eq_true h1]; rfl)
          have HZ : Hid _ := hz
          clear hz hfd hnn h0 h1
          go_wp2
          go_quiet ((go_at_call 41; first | with_reducible exact Calls.quiet_of_same (hat2 _) | with_reducible exact Calls.quiet_of_same (hat3 _)))
          go_wp2
          go_ret
          refine ⟨?_, ?_⟩
          · rw [HZ.out]; rfl
          · first | exact hFw.drewN _ | exact hFw
        · have h1' : ((A : Int) == G[1].toNat) = false := beq_int_false (by omega)
          have hz := hnn.out (by rw [decide_eq_true h0, decide_eq_false h1]; rfl)
          have HZ : Hid _ := hz
          clear hz hfd hnn h0 h1
          go_wp2
          go_quiet ((go_at_call 41; first | with_reducible exact Calls.quiet_of_same (hat2 _) | with_reducible exact Calls.quiet_of_same (hat3 _)))
          go_wp2
          go_roundg h
          case measure => omega
          case rel => exact ⟨k + 1, by omega, by go_num, (by rw [HWR.out]; exact ⟨_, World.drewN_drewN _ _ _⟩), HZ⟩
      · have h0' : ((s[i].toNat : Int) == G[0].toNat) = false := beq_int_false (by omega)
        have hz := hnn.out (by rw [decide_eq_false h0]; rfl)
        have HZ : Hid _ := hz
        clear hz hfd hnn h0
        go_wp2
        go_quiet ((go_at_call 41; first | with_reducible exact Calls.quiet_of_same (hat2 _) | with_reducible exact Calls.quiet_of_same (hat3 _)))
        go_wp2
        go_roundg h
        case measure => omega
        case rel => exact ⟨k + 1, by omega, by go_num, (by rw [HWR.out]; exact ⟨_, World.drewN_drewN _ _ _⟩), HZ⟩
end Go.Proofs.YtcfhngfogclheaaDoor
