/-
  moved: values with things' numbers changed; conditions: lists are few, the list of numbers lies as told.
-/
import Derived.Test.YtefkcmeeagflmaaDoorMhPrA
import Derived.Test.YtefkcmeeagflmaaDoorMhPurM
namespace Go.Proofs.YtefkcmeeagflmaaDoor
open Go.RowKit
set_option linter.unusedVariables false
set_option linter.unusedSimpArgs false

set_option maxRecDepth 100000 in
set_option maxHeartbeats 8000000 in
theorem moved_any {w : World} {Bt n : Nat} {σ : Nat → Nat} {at' : Option Addr} {ct : Nat} (ht : w.ownsRow Bt 3 1 (.slice at' n ct) n ((List.range n).map fun x => Value.int .i64 (σ x : Int))) (hn : n ≤ 1000) (xs : List (Int × Int)) (a1 : Option Addr) (m c1 : Nat) (hxm : xs.length = m) (hl : Lies w a1 xs) (hm : m ≤ 1000) :
    Calls Tryd.prog 19 #[.slice a1 m c1, .slice at' n ct] w fun e w' => ∃ v, e = .returned v ∧ Fr [] w w' ∧ w'.ownsRow w.heap.size 45 2 v m (flat (xs.map (mvV n σ))) := by
  obtain ⟨i45, hi, hz, hs, hby⟩ := info_parts info45
  have HX : Hid (xs.length = m) := hxm
  have hmI : (m : Int) ≤ 1000 := by omega
  have hnI : (n : Int) ≤ 1000 := by omega
  obtain ⟨ys, hys⟩ : ∃ ys, ys = xs.map (mvV n σ) := ⟨_, rfl⟩
  rw [← hys]
  have HY : Hid (∀ (k : Nat) x, xs[k]? = some x → ys.take (k + 1) = ys.take k ++ [mvV n σ x]) := fun k x hx => by
    rw [List.take_add_one, hys, List.getElem?_map, hx]
    rfl
  have HYL : Hid (ys.length = m) := by unfold Hid; rw [hys, List.length_map, hxm]
  clear hxm hys
  go_enter Tryd.func19, Tryd.ntmps19
  go_wp2
  go_loopw [5, 7, 10] (fun vo _ ix wr => ∃ (k : Nat), k ≤ m ∧ ix = .int .i64 k ∧ wr.ownsRow w.heap.size 45 2 vo k (flat (ys.take k)) ∧ Fr [] w wr) (fun _ _ ix _ => m - (intOf ix).toNat)
  case atStart => exact ⟨0, Nat.zero_le _, rfl, by simpa [flat] using World.ownsRow_nil _ _ _ _, Fr.refl _ _⟩
  case round =>
    obtain ⟨k, hk, rfl, how, Fw⟩ := hrel
    by_cases hlt : k < m
    · have hx : xs[k]? = some (xs[k]'(by rw [HX.out]; exact hlt)) := List.getElem?_eq_getElem _
      obtain ⟨g, o, rfl, x0, x1⟩ := (hl.fr Fw (by simp)).at hx
      have HT : Hid (ys.take (k + 1) = ys.take k ++ [mvV n σ (xs[k]'(by rw [HX.out]; exact hlt))]) := HY.out k _ hx
      generalize xs[k]'(by rw [HX.out]; exact hlt) = x at *
      obtain ⟨p1, p2⟩ := x
      have hkI : (k : Int) < (m : Int) := by omega
      have hmx : k + 1 ≤ maxLen := by have : maxLen = 9223372036854775807 := rfl; omega
      have hmb : (k + 1) * 16 ≤ 140737488355328 := by omega
      have hBw : w.heap.size ≤ wr.heap.size := Fw.size
      obtain ⟨a3, c3, rfl, _⟩ := own_slice how
      have htw := own_fr ht Fw (by simp)
      clear hx HY
      have FIN : Hid (∀ (q : Int × Int) (w2 : World), mvV n σ (p1, p2) = q → Fr [] wr w2 → ∀ (v3 : Value) (w3 : World), w3.ownsRow w.heap.size 45 2 v3 (k + 1) (flat (ys.take k) ++ [.int .i64 q.1, .int .i64 q.2]) → w2.grownBy w3 (Value.slice a3 k c3).ownBlock → w3.ownsRow w.heap.size 45 2 v3 (k + 1) (flat (ys.take (k + 1))) ∧ Fr [] w w3) := by
        intro q w2 hq f2 v3 w3 ho3 hg3
        constructor
        · rw [HT.out, flat_app, hq]
          exact ho3
        · exact Fr.grown (Fw.trans f2) hg3 (fun k e => .inr (how.lt k e).1)
      by_cases h2 : p1 = 2
      · subst h2
        by_cases h3 : p2 < 0
        · have hd3 : decide (0 ≤ p2) = false := by simpa using h3
          have HQ : Hid (mvV n σ (2, p2) = (2, p2)) := by unfold Hid mvV; rw [if_neg (fun h => by have := h.2.1; simp at this; omega)]
          go_wp2_with (at_builtin; go_loud (refine wpList_append_fp _ rfl _ _ 23 rfl w.heap.size 45 i45 (.agg #[.int .i64 0, .int .i64 0]) 2 16 under23 hi hz hs hby rfl (by decide) (.slice a3 k c3) k (flat (ys.take k)) rfl ?own0 _ 1 _ [.int .i64 2, .int .i64 p2] rfl rfl ?news0 ?one0 ?max0 ?byt0 ?base0 ?_))
          any_goals first
            | exact (how.alloc _).alloc _
            | exact hmx
            | exact hmb
            | (simp [Value.oneCell']; done)
            | omega
            | (simp; omega)
            | exact cell_two_new (wr.alloc _) _ _ 45
          intro v3 w3 ho3 hg3 hk3
          obtain ⟨ho4, F4⟩ := FIN.out (2, p2) _ HQ.out (((Fr.refl _ _).alloc _).alloc _) v3 w3 ho3 hg3
          obtain ⟨a6, c6, rfl, _⟩ := own_slice ho3
          clear hg3 hk3 ho3 how
          go_wp2
          go_roundw
          case rel => exact ⟨k + 1, by omega, by go_num, ho4, F4⟩
          case measure => simp [intOf]; omega
        · obtain ⟨j, rfl⟩ : ∃ j : Nat, p2 = (j : Int) := ⟨p2.toNat, by omega⟩
          have hd3 : decide ((0 : Int) ≤ (j : Int)) = true := by simp
          by_cases h4 : j < n
          · have h4I : (j : Int) < (n : Int) := by omega
            have HQ : Hid (mvV n σ (2, (j : Int)) = (2, (σ j : Int))) := by unfold Hid mvV; rw [if_pos (by simp; omega)]; simp
            have hcell : ∃ gt, at' = some ⟨gt, 0, none⟩ ∧ wr.cell? ⟨gt, j, none⟩ = some (.int .i64 (σ j : Int)) := by
              obtain ⟨g', c', e', hc, _⟩ := own_cells htw (j := j) (x := .int .i64 (σ j : Int)) (by simp [h4])
              injection e' with e1
              exact ⟨g', e1, hc⟩
            obtain ⟨gt, rfl, zt⟩ := hcell
            have zt2 := ((Fr.refl [] wr).alloc (.cells #[.int .i64 2, .int .i64 (j : Int)] 45)).cell1 zt (by simp)
            go_wp2_with (at_builtin; go_loud (refine wpList_append_fp _ rfl _ _ 23 rfl w.heap.size 45 i45 (.agg #[.int .i64 0, .int .i64 0]) 2 16 under23 hi hz hs hby rfl (by decide) (.slice a3 k c3) k (flat (ys.take k)) rfl ?own1 _ 1 _ [.int .i64 2, .int .i64 (σ j : Int)] rfl rfl ?news1 ?one1 ?max1 ?byt1 ?base1 ?_))
            any_goals first
              | exact (how.alloc _).alloc _
              | exact hmx
              | exact hmb
              | (simp [Value.oneCell']; done)
              | omega
              | (simp; omega)
              | exact cell_two_new (wr.alloc _) _ _ 45
            intro v3 w3 ho3 hg3 hk3
            obtain ⟨ho4, F4⟩ := FIN.out (2, (σ j : Int)) _ HQ.out (((Fr.refl _ _).alloc _).alloc _) v3 w3 ho3 hg3
            obtain ⟨a6, c6, rfl, _⟩ := own_slice ho3
            clear hg3 hk3 ho3 how
            go_wp2
            go_roundw
            case rel => exact ⟨k + 1, by omega, by go_num, ho4, F4⟩
            case measure => simp [intOf]; omega
          · have h4I : ¬ (j : Int) < (n : Int) := by omega
            have HQ : Hid (mvV n σ (2, (j : Int)) = (2, (j : Int))) := by unfold Hid mvV; rw [if_neg (fun h => by have := h.2.2; simp at this; omega)]
            go_wp2_with (at_builtin; go_loud (refine wpList_append_fp _ rfl _ _ 23 rfl w.heap.size 45 i45 (.agg #[.int .i64 0, .int .i64 0]) 2 16 under23 hi hz hs hby rfl (by decide) (.slice a3 k c3) k (flat (ys.take k)) rfl ?own2 _ 1 _ [.int .i64 2, .int .i64 (j : Int)] rfl rfl ?news2 ?one2 ?max2 ?byt2 ?base2 ?_))
            any_goals first
              | exact (how.alloc _).alloc _
              | exact hmx
              | exact hmb
              | (simp [Value.oneCell']; done)
              | omega
              | (simp; omega)
              | exact cell_two_new (wr.alloc _) _ _ 45
            intro v3 w3 ho3 hg3 hk3
            obtain ⟨ho4, F4⟩ := FIN.out (2, (j : Int)) _ HQ.out (((Fr.refl _ _).alloc _).alloc _) v3 w3 ho3 hg3
            obtain ⟨a6, c6, rfl, _⟩ := own_slice ho3
            clear hg3 hk3 ho3 how
            go_wp2
            go_roundw
            case rel => exact ⟨k + 1, by omega, by go_num, ho4, F4⟩
            case measure => simp [intOf]; omega
      · have hd : (p1 == 2) = false := by simpa using h2
        have HQ : Hid (mvV n σ (p1, p2) = (p1, p2)) := by unfold Hid mvV; rw [if_neg (fun h => h2 h.1)]
        go_wp2_with (at_builtin; go_loud (refine wpList_append_fp _ rfl _ _ 23 rfl w.heap.size 45 i45 (.agg #[.int .i64 0, .int .i64 0]) 2 16 under23 hi hz hs hby rfl (by decide) (.slice a3 k c3) k (flat (ys.take k)) rfl ?own3 _ 1 _ [.int .i64 p1, .int .i64 p2] rfl rfl ?news3 ?one3 ?max3 ?byt3 ?base3 ?_))
        any_goals first
          | exact (how.alloc _).alloc _
          | exact hmx
          | exact hmb
          | (simp [Value.oneCell']; done)
          | omega
          | (simp; omega)
          | exact cell_two_new (wr.alloc _) _ _ 45
        intro v3 w3 ho3 hg3 hk3
        obtain ⟨ho4, F4⟩ := FIN.out (p1, p2) _ HQ.out (((Fr.refl _ _).alloc _).alloc _) v3 w3 ho3 hg3
        obtain ⟨a6, c6, rfl, _⟩ := own_slice ho3
        clear hg3 hk3 ho3 how
        go_wp2
        go_roundw
        case rel => exact ⟨k + 1, by omega, by go_num, ho4, F4⟩
        case measure => simp [intOf]; omega
    · have hkI : ¬ (k : Int) < (m : Int) := by omega
      have hke : k = m := by omega
      have HE : Hid (ys.take k = ys) := by unfold Hid; rw [List.take_of_length_le (by rw [HYL.out]; omega)]
      rw [HE.out] at how
      subst hke
      have HO : Hid (wr.ownsRow w.heap.size 45 2 u5 k (flat ys)) := how
      have HF : Hid (Fr [] w wr) := Fw
      clear how
      go_wp2
      go_ret
      exact ⟨u5, rfl, HF.out, HO.out⟩
end Go.Proofs.YtefkcmeeagflmaaDoor
