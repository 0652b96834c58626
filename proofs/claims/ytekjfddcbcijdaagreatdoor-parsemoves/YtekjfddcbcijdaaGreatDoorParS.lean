/-
  What reads signs and what stands behind them; conditions: the parser lies as told.
-/
import Derived.Test.YtekjfddcbcijdaaGreatDoorParR
namespace Go.Proofs.YtekjfddcbcijdaaGreatDoor
open Go.RowKit Go.Shelf
attribute [local go_sem] Oper.semAt_some store_func
set_option linter.unusedVariables false
set_option linter.unusedSimpArgs false

theorem backT_any (a : Option Addr) (n c : Nat) (w : World) :
    Calls Tryz.prog 94 #[.slice a n c] w fun e w' => e = .returned (.func (.func 102) #[] #[.pointer (some ⟨w.heap.size, 0, none⟩)]) ∧ w' = w.alloc (.cells #[.slice a n c] 32) := by
  go_enter Tryz.func94, Tryz.ntmps94
  go_wp2
  go_ret
  exact ⟨rfl, rfl⟩

/-- Tokens in a row. -/
def TC (W : World) (a : Option Addr) (acc : List Tok) : Prop := ∀ (p : Nat) (t : Tok), acc[p]? = some t → ∃ g, a = some ⟨g, 0, none⟩ ∧ W.cell? ⟨g, p * 5, none⟩ = some (.int .i64 (t.kind : Nat)) ∧ W.cell? ⟨g, p * 5 + 1, none⟩ = some (.string ⟨t.text.toArray⟩) ∧ W.cell? ⟨g, p * 5 + 2, none⟩ = some (.int .i64 (t.frm : Nat)) ∧ W.cell? ⟨g, p * 5 + 3, none⟩ = some (.int .i64 (t.to : Nat)) ∧ W.cell? ⟨g, p * 5 + 4, none⟩ = some (.int .i64 (t.n : Nat))

set_option maxRecDepth 100000 in
set_option maxHeartbeats 1000000 in
/-- Tokens are told from the last one on, whatever the caller does with each. -/
theorem backT1 (G : Nat → World → Prop) (bx l : Nat) (a : Option Addr) (c : Nat) (acc : List Tok) (hm : acc.length ≤ 200001)
    (hK : ∀ j W, G j W → W.heap[bx]? = some (.cells #[.slice a acc.length c] 32 (0, 0)) ∧ TC W a acc)
    (hY : ∀ j t W, acc.reverse[j]? = some t → G j W → YieldAt Fence.wide 0 Tryz.prog l #[.int .i64 ((acc.length - 1 - j : Nat) : Int), .agg (tokA t)] W (fun e W' => e = .returned (.bool true) ∧ G (j + 1) W'))
    (W : World) (h0 : G 0 W) :
    CallsIn Fence.wide 0 Tryz.prog 102 #[.func (.yield l) #[] #[], .pointer (some ⟨bx, 0, none⟩)] W fun e W' => (∃ v, e = .returned v) ∧ G acc.length W' := by
  refine callsIn_of_wp Tryz.func102 rfl trivial ?_ rfl
  simp only [Tryz.ntmps102, List.size_toArray, List.length_cons, List.length_nil, Nat.reduceAdd, Nat.reduceSub, Array.replicate_succ, Array.replicate_zero, List.push_toArray, List.append_toArray, List.nil_append, List.cons_append]
  have cb := at_cells (hK 0 W h0).1 0 rfl
  have hm' : (acc.length : Int) ≤ 200001 := by omega
  gi_wp2
  gi_loopw [3] (fun i wr => ∃ j : Nat, j ≤ acc.length ∧ i = .int .i64 ((acc.length : Int) - 1 - j) ∧ G j wr) (fun i _ => (intOf i + 1).toNat)
  case atStart => exact ⟨0, Nat.zero_le _, by simp, h0⟩
  case round =>
    obtain ⟨j, hj, rfl, hg⟩ := hrel
    obtain ⟨hb, hk⟩ := hK j wr hg
    have cb2 := at_cells hb 0 rfl
    by_cases hlt : j < acc.length
    · have e1 : (acc.length : Int) - 1 - j = ((acc.length - 1 - j : Nat) : Int) := by omega
      have hx : acc[acc.length - 1 - j]? = some (acc[acc.length - 1 - j]'(by omega)) := List.getElem?_eq_getElem _
      have hr : acc.reverse[j]? = some (acc[acc.length - 1 - j]'(by omega)) := by rw [List.getElem?_reverse hlt]; exact hx
      generalize acc[acc.length - 1 - j]'(by omega) = t at hx hr
      obtain ⟨g, rfl, d0, d1, d2, d3, d4⟩ := hk _ t hx
      have hYY := hY j t wr hr hg
      unfold tokA at hYY
      obtain ⟨fn, tmps, assign, body, hy, hR⟩ := hYY
      rw [e1]
      have hlt2 : acc.length - 1 - j < acc.length := by omega
      have HQ : Hid (acc.length - 1 - j + j + 1 = acc.length) := by unfold Hid; omega
      generalize acc.length - 1 - j = q at *
      clear hx hr cb e1 hk
      gi_wp2
      refine ⟨rfl, hR.mono ?_⟩
      rintro e W' ⟨rfl, hG'⟩
      clear hR hy
      gi_wp2
      go_roundw
      case rel => exact ⟨j + 1, hlt, by have := HQ.out; go_num, hG'⟩
      case measure => simp [intOf]
    · have : j = acc.length := by omega
      subst this
      gi_wp2
      go_end0
      exact ⟨⟨_, rfl⟩, hg⟩
end Go.Proofs.YtekjfddcbcijdaaGreatDoor
