/-
  What is shown of any values is just the document's text; conditions: what comes in can be read and is not too much, the library's table lies as told.
-/
import Derived.Test.YtefkcmeeagflmaaDoorMhTxtC
import Derived.Test.YtefkcmeeagflmaaDoorMhRchW
namespace Go.Proofs.YtefkcmeeagflmaaDoor
open Go.RowKit
set_option linter.unusedVariables false
set_option linter.unusedSimpArgs false

theorem laid_wf {L : List OR} {A : List (Int × List (Int × Int))} (h : A = L.map OR.abs) (hF : ∀ y, y ∈ L → OFn y) : wfA A := by
  subst h
  intro o ho
  simp only [List.mem_map] at ho
  obtain ⟨y, hy, rfl⟩ := ho
  exact ⟨laySort_wf (hF y hy).wr, (hF y hy).wx⟩

set_option maxRecDepth 100000 in
set_option maxHeartbeats 8000000 in
theorem isoShows_walk (L : List OR) (w : World) (a0 : Option Addr) (len cap : Nat) (hlen : L.length = len) (hL : ORs w.heap.size w a0 L) (hsrc : ∀ (i : Nat) (x : OR), L[i]? = some x → Src w.heap.size w x.a x.m x.c x.xs) (hF : ∀ y, y ∈ L → OFn y) (ht : totO L ≤ 2000000)
    (xs : List (Int × Int)) (a1 : Option Addr) (n c1 : Nat) (hx : Src w.heap.size w a1 n c1 xs) (hc1 : n ≤ c1) (hwx : ∀ c, c ∈ xs → (Lit.int .i64 c.2).wf = true) (hn : n ≤ 2000000) (TT : Pw w) :
    Calls Tryd.prog 5 #[.slice a0 len cap, .slice a1 n c1] w fun e w' => e = .returned (.bool true) ∧ Fr [] w w' := by
  go_enter Tryd.func5, Tryd.ntmps5
  go_wp2_with fail
  refine (awake_any w TT).mono ?_
  rintro e w1 ⟨rfl, F1⟩
  go_wp2_with fail
  refine (few_any L w1 a0 len cap a1 n c1 w1.heap.size (Nat.le_refl _) hlen (hL.fr F1 (Nat.le_refl _)) ht hn).mono ?_
  rintro e w2 ⟨rfl, b2⟩
  have f2 := Fr.ofBelow b2
  have F2 := F1.trans f2
  by_cases hfew : n + totO L ≤ 300
  · rw [decide_eq_true hfew]
    go_wp2_with fail
    refine (laid_any L w2 a0 len cap hlen (hL.fr F2 (Nat.le_refl _)) (by omega) (fun i x hx' => (hsrc i x hx').up F2 (Nat.le_refl _))).mono ?_
    rintro e w3 ⟨rfl, ⟨sv3, sr3, T3, U3, J3, ab3⟩, f3⟩
    have F3 := F2.trans f3
    rw [List.take_of_length_le (by omega)] at ab3
    generalize w2.heap.size = k2 at *
    obtain ⟨fA, hso⟩ := laid_fine ab3 hF (by omega)
    obtain ⟨hU, hUl⟩ := laid_ref J3.same ab3 hF (by omega)
    have hUL : U3.length ≤ 99000 := by
      have h1 := congrArg List.length (J3.same.symm.trans ab3)
      have h2 := totO_len L
      simp only [List.length_map] at h1
      omega
    have hUw : wfA (U3.map RT.abs) := laid_wf (J3.same.symm.trans ab3) hF
    have htot : tot (L.map OR.abs) ≤ 300 := by have := wgO L hF 0; unfold tot; omega
    have hw2 : lft wt2 (L.map OR.abs) [] ≤ 2 * totO L := wgO2 L hF 0
    have hxl := hx.len
    have X3 := (hx.fr F3 (by simp)).lies
    have P3 := TT.fr F3 (by simp)
    go_wp2_with fail
    refine (Show_any J3.R fA hso P3 xs a1 n c1 hxl X3 hc1 hwx (by rw [ab3]; omega) (by rw [ab3]; omega)).mono ?_
    rw [ab3]
    rintro e w4 ⟨rfl, f4⟩
    have F4 := F3.trans f4
    go_wp2_with fail
    refine (rShow_any (J3.Q.frame f4 (by simp)) (P3.fr f4 (by simp)) hU hUL hUw (by rw [← J3.same, ab3]; omega) xs a1 n c1 hxl (X3.fr f4 (by simp)) (by omega) hwx).mono ?_
    rw [← J3.same, ab3]
    rintro e w5 ⟨rfl, f5⟩
    have F5 := F4.trans f5
    generalize bt (showR (L.map OR.abs) xs) = S
    go_wp2
    go_ret
    exact ⟨rfl, F5⟩
  · rw [decide_eq_false hfew]
    go_wp2
    go_ret
    exact ⟨rfl, F2⟩
end Go.Proofs.YtefkcmeeagflmaaDoor
