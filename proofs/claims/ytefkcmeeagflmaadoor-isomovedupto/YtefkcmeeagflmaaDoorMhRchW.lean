/-
  What is reached from any values, depth first, is just what the document says; conditions: what comes in can be read and is not too much, the library's table lies as told.
-/
import Derived.Test.YtefkcmeeagflmaaDoorMhRefA
import Derived.BigQuiet
namespace Go.Proofs.YtefkcmeeagflmaaDoor
open Go.RowKit
set_option linter.unusedVariables false
set_option linter.unusedSimpArgs false

theorem laid_ref {L : List OR} {T : List Thing} {U : List RT} (hs : T.map Thing.abs = U.map RT.abs) (h : T.map Thing.abs = L.map OR.abs) (hF : ∀ y, y ∈ L → OFn y) (ht : totO L ≤ 300) : (∀ u, u ∈ U → u.cells.length ≤ 1000000) ∧ U.length ≤ 1000000 := by
  have hab : U.map RT.abs = L.map OR.abs := hs.symm.trans h
  constructor
  · intro u hu
    have : u.abs ∈ L.map OR.abs := by rw [← hab]; exact List.mem_map_of_mem hu
    simp only [List.mem_map] at this
    obtain ⟨y, hy, e⟩ := this
    simp only [OR.abs, RT.abs, Prod.mk.injEq] at e
    obtain ⟨i, hi⟩ := List.getElem?_of_mem hy
    have hm := totO_at L i y hi
    have hl := (hF y hy).len
    rw [← e.2]
    omega
  · have := congrArg List.length hab
    simp at this
    have := totO_len L
    omega

theorem row_at {w : World} {B m : Nat} {a : Option Addr} {c : Nat} {l : List Int} (ho : w.ownsRow B 2 1 (.slice a m c) m (l.map (Value.int .i64))) {k : Nat} {x : Int} (hx : l[k]? = some x) : ∃ g, a = some ⟨g, 0, none⟩ ∧ w.cell? ⟨g, k, none⟩ = some (.int .i64 x) := by
  obtain ⟨g', c', e', hc, _⟩ := own_cells ho (j := k) (x := .int .i64 x) (by simp [hx])
  injection e' with e1
  exact ⟨g', e1, hc⟩

set_option maxRecDepth 100000 in
set_option maxHeartbeats 8000000 in
theorem isoReach_walk (L : List OR) (w : World) (a0 : Option Addr) (len cap : Nat) (hlen : L.length = len) (hL : ORs w.heap.size w a0 L) (hsrc : ∀ (i : Nat) (x : OR), L[i]? = some x → Src w.heap.size w x.a x.m x.c x.xs) (hF : ∀ y, y ∈ L → OFn y) (ht : totO L ≤ 2000000)
    (xs : List (Int × Int)) (a1 : Option Addr) (n c1 : Nat) (hx : Src w.heap.size w a1 n c1 xs) (hc1 : n ≤ c1) (hwx : ∀ c, c ∈ xs → (Lit.int .i64 c.2).wf = true) (hn : n ≤ 2000000) (TT : Pw w) :
    Calls Tryd.prog 4 #[.slice a0 len cap, .slice a1 n c1] w fun e w' => e = .returned (.bool true) ∧ Fr [] w w' := by
  go_enter Tryd.func4, Tryd.ntmps4
  go_wp2_with fail
  refine (awake_any w TT).mono ?_
  rintro e w1 ⟨rfl, F1⟩
  go_wp2_with fail
  refine (few_any L w1 a0 len cap a1 n c1 w1.heap.size (Nat.le_refl _) hlen (hL.fr F1 (Nat.le_refl _)) ht hn).mono ?_
  rintro e w2 ⟨rfl, b2⟩
  have f2 := Fr.ofBelow b2
  have F2 := F1.trans f2
  by_cases hfew : n + totO L ≤ 300
  · rw [decide_eq_true hfew]
    go_wp2_with fail
    refine (laid_any L w2 a0 len cap hlen (hL.fr F2 (Nat.le_refl _)) (by omega) (fun i x hx' => (hsrc i x hx').up F2 (Nat.le_refl _))).mono ?_
    rintro e w3 ⟨rfl, ⟨sv3, sr3, T3, U3, J3, ab3⟩, f3⟩
    have F3 := F2.trans f3
    rw [List.take_of_length_le (by omega)] at ab3
    generalize w2.heap.size = k2 at *
    obtain ⟨fA, _⟩ := laid_fine ab3 hF (by omega)
    obtain ⟨hU, hUl⟩ := laid_ref J3.same ab3 hF (by omega)
    have htot : tot (L.map OR.abs) ≤ 300 := by have := wgO L hF 0; unfold tot; omega
    have hxl := hx.len
    have X3 := (hx.fr F3 (by simp)).lies
    have hRR : reachR (U3.map RT.abs) xs = reachR (T3.map Thing.abs) xs := by rw [J3.same]
    have hlen2 : (reachR (T3.map Thing.abs) xs).length ≤ 1000000 := by
      have h1 := reach_len (T3.map Thing.abs) xs
      have h2 : lft wt2 (T3.map Thing.abs) [] ≤ 2 * totO L := by rw [ab3]; exact wgO2 L hF 0
      omega
    go_wp2_with fail
    refine (Reach_all J3.R fA xs a1 n c1 hxl X3 hc1 hwx (by rw [ab3]; omega)).mono ?_
    rintro e w4 ⟨v4, rfl, f4, ho4⟩
    have F4 := F3.trans f4
    go_wp2_with fail
    refine (rReach_any (J3.Q.frame f4 (by simp)) hU hUl xs a1 n c1 hxl (X3.fr f4 (by simp)) (by omega)).mono ?_
    rw [hRR]
    rintro e w5 ⟨v5, rfl, f5, ho5⟩
    have F5 := F4.trans f5
    have ho6 := own_fr ho4 f5 (by simp)
    generalize hRl : reachR (T3.map Thing.abs) xs = rl at *
    obtain ⟨m, hm⟩ : ∃ m, rl.length = m := ⟨_, rfl⟩
    have HM : Hid (rl.length = m) := hm
    rw [hm] at ho5 ho6 hlen2
    obtain ⟨a4, c4, hv4, _⟩ := own_slice ho6
    obtain ⟨a5, c5, hv5, _⟩ := own_slice ho5
    subst hv4 hv5
    have hmI : (m : Int) ≤ 1000000 := by omega
    clear hm hL hsrc hx J3 ab3 fA hU hUl X3 ho4 f2 f3 f4 f5 F1 F2 F3 F4 b2
    go_wp2
    go_loopw [9, 36] (fun _ ix wr => ∃ k : Nat, k ≤ m ∧ ix = .int .i64 k ∧ Fr [] w5 wr) (fun _ ix _ => m - (intOf ix).toNat)
    case atStart => exact ⟨0, Nat.zero_le _, rfl, Fr.refl _ _⟩
    case round =>
      obtain ⟨k, hk, rfl, fw⟩ := hrel
      by_cases hlt : k < m
      · have hx : rl[k]? = some (rl[k]'(by rw [HM.out]; exact hlt)) := List.getElem?_eq_getElem _
        obtain ⟨g4, rfl, q4⟩ := row_at (own_fr ho6 fw (by simp)) hx
        obtain ⟨g5, rfl, q5⟩ := row_at (own_fr ho5 fw (by simp)) hx
        generalize rl[k]'(by rw [HM.out]; exact hlt) = x at *
        have hkI : (k : Int) < (m : Int) := by omega
        clear hx
        go_wp2
        go_quiet (fail)
        go_wp2
        go_roundw
        case rel => exact ⟨k + 1, by omega, by go_num, fw.drewN _⟩
        case measure => simp [intOf]; omega
      · have hkI : ¬ (k : Int) < (m : Int) := by omega
        have FF := F5.trans fw
        go_wp2
        go_ret
        exact ⟨rfl, FF⟩
  · rw [decide_eq_false hfew]
    go_wp2
    go_ret
    exact ⟨rfl, F2⟩
end Go.Proofs.YtefkcmeeagflmaaDoor
