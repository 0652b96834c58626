/-
  Whether any two heaps are alike as seen from any values is just what the document says, and it is so from both sides; conditions: what comes in can be read and is not too much, the library's table lies as told.
-/
import Derived.Test.YtefkcmeeagflmaaDoorMhPrB
import Derived.Test.YtefkcmeeagflmaaDoorMhRchW
namespace Go.Proofs.YtefkcmeeagflmaaDoor
open Go.RowKit
set_option linter.unusedVariables false
set_option linter.unusedSimpArgs false

set_option maxRecDepth 100000 in
set_option maxHeartbeats 8000000 in
theorem isoSame_walk (L : List OR) (w : World) (a0 : Option Addr) (len cap : Nat) (hlen : L.length = len) (hL : ORs w.heap.size w a0 L) (hsrc : ∀ (i : Nat) (x : OR), L[i]? = some x → Src w.heap.size w x.a x.m x.c x.xs) (hF : ∀ y, y ∈ L → OFn y) (ht : totO L ≤ 2000000)
    (xs : List (Int × Int)) (a1 : Option Addr) (n c1 : Nat) (hx : Src w.heap.size w a1 n c1 xs) (hc1 : n ≤ c1) (hwx : ∀ c, c ∈ xs → (Lit.int .i64 c.2).wf = true) (hn : n ≤ 2000000)
    (M : List OR) (a2 : Option Addr) (len2 cap2 : Nat) (hlen2 : M.length = len2) (hM : ORs w.heap.size w a2 M) (hsrc2 : ∀ (i : Nat) (x : OR), M[i]? = some x → Src w.heap.size w x.a x.m x.c x.xs) (hG : ∀ y, y ∈ M → OFn y) (ht2 : totO M ≤ 2000000)
    (ys : List (Int × Int)) (a3 : Option Addr) (m c3 : Nat) (hy : Src w.heap.size w a3 m c3 ys) (hc3 : m ≤ c3) (hwy : ∀ c, c ∈ ys → (Lit.int .i64 c.2).wf = true) (hm : m ≤ 2000000) (TT : Pw w) :
    Calls Tryd.prog 3 #[.slice a0 len cap, .slice a1 n c1, .slice a2 len2 cap2, .slice a3 m c3] w fun e w' => e = .returned (.bool true) ∧ Fr [] w w' := by
  go_enter Tryd.func3, Tryd.ntmps3
  go_wp2_with fail
  refine (awake_any w TT).mono ?_
  rintro e w1 ⟨rfl, F1⟩
  go_wp2_with fail
  refine (few_any L w1 a0 len cap a1 n c1 w1.heap.size (Nat.le_refl _) hlen (hL.fr F1 (Nat.le_refl _)) ht hn).mono ?_
  rintro e w2 ⟨rfl, b2⟩
  have f2 := Fr.ofBelow b2
  have F2 := F1.trans f2
  by_cases hfew : n + totO L ≤ 300
  · rw [decide_eq_true hfew]
    go_wp2_with fail
    refine (few_any M w2 a2 len2 cap2 a3 m c3 w2.heap.size (Nat.le_refl _) hlen2 (hM.fr F2 (Nat.le_refl _)) ht2 hm).mono ?_
    rintro e w2' ⟨rfl, b2'⟩
    have f2' := Fr.ofBelow b2'
    have F2' := F2.trans f2'
    by_cases hfew2 : m + totO M ≤ 300
    · rw [decide_eq_true hfew2]
      go_wp2_with fail
      refine (laid_any L w2' a0 len cap hlen (hL.fr F2' (Nat.le_refl _)) (by omega) (fun i x hx' => (hsrc i x hx').up F2' (Nat.le_refl _))).mono ?_
      rintro e w3 ⟨rfl, ⟨sv3, sr3, T3, U3, J3, ab3⟩, f3⟩
      have F3 := F2'.trans f3
      rw [List.take_of_length_le (by omega)] at ab3
      generalize w2'.heap.size = k2 at *
      go_wp2_with fail
      refine (laid_any M w3 a2 len2 cap2 hlen2 (hM.fr F3 (Nat.le_refl _)) (by omega) (fun i x hx' => (hsrc2 i x hx').up F3 (Nat.le_refl _))).mono ?_
      rintro e w4 ⟨rfl, ⟨sv4, sr4, T4, U4, J4, ab4⟩, f4⟩
      have F4 := F3.trans f4
      rw [List.take_of_length_le (by omega)] at ab4
      generalize w3.heap.size = k3 at *
      have RA := J3.R.frame f4 (by simp)
      have QA := J3.Q.frame f4 (by simp)
      have RB := J4.R
      have QB := J4.Q
      obtain ⟨fA, _⟩ := laid_fine ab3 hF (by omega)
      obtain ⟨fB, _⟩ := laid_fine ab4 hG (by omega)
      obtain ⟨hU, hUl⟩ := laid_ref J3.same ab3 hF (by omega)
      obtain ⟨hV, hVl⟩ := laid_ref J4.same ab4 hG (by omega)
      have htot : tot (L.map OR.abs) ≤ 300 := by have := wgO L hF 0; unfold tot; omega
      have htot2 : tot (M.map OR.abs) ≤ 300 := by have := wgO M hG 0; unfold tot; omega
      have hxl := hx.len
      have hyl := hy.len
      have X4 := (hx.fr F4 (by simp)).lies
      have Y4 := (hy.fr F4 (by simp)).lies
      have sA := J3.same
      have sB := J4.same
      obtain ⟨d, hd⟩ : ∃ d : Bool, (d = true ↔ Alike (L.map OR.abs) xs (M.map OR.abs) ys) := by
        by_cases h : Alike (L.map OR.abs) xs (M.map OR.abs) ys
        · exact ⟨true, by simp [h]⟩
        · exact ⟨false, by simp [h]⟩
      have eqd : ∀ r : Bool, (r = true ↔ Alike (L.map OR.abs) xs (M.map OR.abs) ys) → r = d := fun r h => by
        have := h.trans hd.symm
        cases r <;> cases d <;> simp at this ⊢
      have C1 : ∀ w', Fr [] w4 w' → Calls Tryd.prog 12 #[.pointer (some ⟨k2, 0, none⟩), .slice a1 n c1, .pointer (some ⟨k3, 0, none⟩), .slice a3 m c3] w' fun e w'' => e = .returned (.bool d) ∧ Fr [] w' w'' := fun w' h => by
        refine (Same_any (RA.frame h (by simp)) (RB.frame h (by simp)) fA fB xs ys n m hxl hyl a1 a3 c1 c3 (X4.fr h (by simp)) (Y4.fr h (by simp)) (by omega) hwx hwy (by rw [ab3]; omega)).mono ?_
        rw [ab3, ab4]
        rintro e w'' ⟨r, rfl, hr, f⟩
        exact ⟨by rw [eqd r hr], f⟩
      have C2 : ∀ w', Fr [] w4 w' → Calls Tryd.prog 12 #[.pointer (some ⟨k3, 0, none⟩), .slice a3 m c3, .pointer (some ⟨k2, 0, none⟩), .slice a1 n c1] w' fun e w'' => e = .returned (.bool d) ∧ Fr [] w' w'' := fun w' h => by
        refine (Same_any (RB.frame h (by simp)) (RA.frame h (by simp)) fB fA ys xs m n hyl hxl a3 a1 c3 c1 (Y4.fr h (by simp)) (X4.fr h (by simp)) (by omega) hwy hwx (by rw [ab4]; omega)).mono ?_
        rw [ab3, ab4]
        rintro e w'' ⟨r, rfl, hr, f⟩
        exact ⟨by rw [eqd r (hr.trans ⟨Alike.symm, Alike.symm⟩)], f⟩
      have C3 : ∀ w', Fr [] w4 w' → Calls Tryd.prog 13 #[.pointer (some ⟨k2 + 1, 0, none⟩), .slice a1 n c1, .pointer (some ⟨k3 + 1, 0, none⟩), .slice a3 m c3] w' fun e w'' => e = .returned (.bool d) ∧ Fr [] w' w'' := fun w' h => by
        refine (rSame_any (QA.frame h (by simp)) (QB.frame h (by simp)) hUl hVl hU hV xs ys a1 a3 n m c1 c3 hxl hyl (X4.fr h (by simp)) (Y4.fr h (by simp)) (by omega)).mono ?_
        rw [← sA, ← sB, ab3, ab4]
        rintro e w'' ⟨r, rfl, hr, f⟩
        exact ⟨by rw [eqd r hr], f⟩
      clear hL hM hsrc hsrc2 J3 J4 RA RB QA QB fA fB hU hUl hV hVl X4 Y4 sA sB ab3 ab4 hx hy F1 F2 F2' F3 f2 f2' f3 f4 b2 b2' hd eqd
      have R0 : Fr [] w4 w4 := Fr.refl _ _
      go_wp2_with fail
      refine (C1 _ R0).mono ?_
      rintro e w5 ⟨rfl, f5⟩
      go_wp2_with fail
      refine (C3 _ f5).mono ?_
      rintro e w6 ⟨rfl, f6⟩
      have F6 := f5.trans f6
      go_wp2_with fail
      refine (C2 _ F6).mono ?_
      rintro e w7 ⟨rfl, f7⟩
      have F7 := F6.trans f7
      go_wp2_with fail
      refine (C1 _ F7).mono ?_
      rintro e w8 ⟨rfl, f8⟩
      have F8 : Fr [] w w8 := F4.trans (F7.trans f8)
      clear C1 C2 C3
      go_wp2
      go_ret
      exact ⟨rfl, F8⟩
    · rw [decide_eq_false hfew2]
      go_wp2
      go_ret
      exact ⟨rfl, F2'⟩
  · rw [decide_eq_false hfew]
    go_wp2
    go_ret
    exact ⟨rfl, F2⟩
end Go.Proofs.YtefkcmeeagflmaaDoor
