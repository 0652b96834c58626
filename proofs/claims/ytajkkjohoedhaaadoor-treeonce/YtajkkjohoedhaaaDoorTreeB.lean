/-
  Which kinds a letter takes, how many of them, small letters, marking kids, looking for one that isn't marked; no condition but that lists lie as told.
-/
import Derived.Test.YtajkkjohoedhaaaDoorTreeA
import Derived.Laws.RangeString
namespace Go.Proofs.YtajkkjohoedhaaaDoor
open Go.RowKit
set_option linter.unusedVariables false
set_option linter.unusedSimpArgs false

set_option maxRecDepth 100000 in
set_option maxHeartbeats 1000000 in
theorem kindFits_any (c : Nat) (k : Int) (w : World) (hc : c < 128) :
    Calls Tryd.prog 62 #[.int .i32 c, .int .i64 k] w fun e w' => e = .returned (.bool (kfit c k)) ∧ w' = w := by
  go_enter Tryd.func62, Tryd.ntmps62
  go_wp2
  all_goals go_ret
  all_goals refine ⟨congrArg (fun b => Ending.returned (Value.bool b)) ?_, rfl⟩
  all_goals unfold kfit
  all_goals clear hc
  all_goals simp only [beq_iff_eq, beq_eq_false_iff_ne, decide_eq_true_eq, decide_eq_false_iff_not, ne_eq] at *
  all_goals (repeat (first | rfl | (exfalso; omega) | split))
  all_goals first | rfl | (simp_all; done) | (simp; omega) | skip

theorem cfit_at {c : Nat} {K : List Int} {i : Nat} {q : Int} (h : K[i]? = some q) : cfit c (K.drop i) = if kfit c q then cfit c (K.drop (i + 1)) + 1 else 0 := by
  obtain ⟨hl, he⟩ := List.getElem?_eq_some_iff.1 h
  rw [List.drop_eq_getElem_cons hl, he]
  rfl

theorem kd_at {L : List Nd} {q : Nat} {x : Nd} (h : L[q]? = some x) : kd L (q : Int) = x.kind := by simp [kd, h]

set_option maxRecDepth 100000 in
set_option maxHeartbeats 1000000 in
theorem countFitting_any (c : Nat) (hc : c < 128) (B : Nat) (L : List Nd) (w : World) (a : Option Addr) (len cap : Nat) (hlen : L.length = len) (hL : NAt B w a L) (hm : len ≤ maxLen)
    (ks : List Int) (ka : Option Addr) (m kc : Nat) (hkm : ks.length = m) (hk : KAt B w ka ks) (hkl : m ≤ maxLen) (hin : ∀ k ∈ ks, 0 ≤ k ∧ k < len) :
    Calls Tryd.prog 51 #[.int .i32 c, .slice a len cap, .slice ka m kc] w fun e w' => e = .returned (.int .i64 (cfit c (ks.map (kd L)))) ∧ w' = w := by
  unfold maxLen at hm hkl
  have HL : Hid (L.length = len) := hlen
  have HK : Hid (ks.length = m) := hkm
  have HI : Hid (∀ k ∈ ks, 0 ≤ k ∧ k < len) := hin
  clear hlen hkm hin
  go_enter Tryd.func51, Tryd.ntmps51
  go_wp2
  go_loop [11] (fun i => ∃ p : Nat, p ≤ m ∧ i = .int .i64 p ∧ Hid (cfit c ((ks.map (kd L)).drop p) + p = cfit c (ks.map (kd L)))) (fun i => m - (intOf i).toNat)
  case atStart => exact ⟨0, Nat.zero_le _, rfl, by unfold Hid; simp⟩
  case round =>
    obtain ⟨p, hp, rfl, he⟩ := hrel
    by_cases hlt : p < m
    · have hx : ks[p]? = some (ks[p]'(by rw [HK.out]; exact hlt)) := List.getElem?_eq_getElem _
      have hq := HI.out _ (List.mem_of_getElem? hx)
      generalize ks[p]'(by rw [HK.out]; exact hlt) = q0 at hx hq
      obtain ⟨q, rfl⟩ := Int.eq_ofNat_of_zero_le hq.1
      obtain ⟨b, o, rfl, hb, hcell⟩ := hk p _ hx
      have hql : q < L.length := by rw [HL.out]; omega
      have hy : L[q]? = some L[q] := List.getElem?_eq_getElem hql
      generalize L[q] = y at hy
      obtain ⟨b', o', rfl, hb', hN⟩ := hL q y hy
      have c0 := hN.c0
      have HC : Hid (cfit c ((ks.map (kd L)).drop p) = if kfit c y.kind then cfit c ((ks.map (kd L)).drop (p + 1)) + 1 else 0) := cfit_at (by simp [hx, kd_at hy])
      have hqn : (q : Int) < (len : Int) := hq.2
      clear hN hL hk hy hx hq hql
      have C := fun w => kindFits_any c y.kind w hc
      cases hf : kfit c y.kind with
      | true =>
        rw [hf] at C
        go_wp2_with (go_at_call 62; refine (C _).mono ?_; rintro e w' ⟨rfl, rfl⟩)
        go_round
        case rel => exact ⟨p + 1, hlt, by go_num, by unfold Hid; rw [← he.out, HC.out, if_pos hf]; omega⟩
        case measure => simp [intOf]; omega
      | false =>
        rw [hf] at C
        go_wp2_with (go_at_call 62; refine (C _).mono ?_; rintro e w' ⟨rfl, rfl⟩)
        go_ret
        refine ⟨?_, rfl⟩
        rw [← he.out, HC.out, if_neg (by rw [hf]; decide)]
        simp
    · have hpm : p = m := by omega
      have HE : Hid (cfit c ((ks.map (kd L)).drop p) = 0) := by
        unfold Hid
        rw [List.drop_of_length_le (by simp [HK.out]; omega)]
        rfl
      go_wp2
      go_ret
      refine ⟨?_, rfl⟩
      rw [← he.out, HE.out, hpm]
      simp

set_option maxRecDepth 100000 in
theorem toLower_any (c : Nat) (hc : c < 128) (w : World) :
    Calls Tryd.prog 50 #[.int .i32 c] w fun e w' => e = .returned (.int .i32 (lowN c)) ∧ w' = w := by
  unfold lowN
  by_cases h1 : 65 ≤ c
  · by_cases h2 : c ≤ 90
    · rw [if_pos ⟨h1, h2⟩]
      go_enter Tryd.func50, Tryd.ntmps50
      go_wp2
      go_ret
      exact ⟨by go_num, rfl⟩
    · rw [if_neg (by omega)]
      go_enter Tryd.func50, Tryd.ntmps50
      go_wp2
      go_ret
      exact ⟨rfl, rfl⟩
  · rw [if_neg (by omega)]
    go_enter Tryd.func50, Tryd.ntmps50
    go_wp2
    go_ret
    exact ⟨rfl, rfl⟩
theorem low_lt {c : Nat} (h : c < 128) : lowN c < 128 := by unfold lowN; split <;> omega
end Go.Proofs.YtajkkjohoedhaaaDoor
