/-
  Any heap is alike to itself from any values; a value more on one side alone is not; conditions: what comes in can be read and is not too much, the library's table lies as told.
-/
import Derived.Test.YtefkcmeeagflmaaDoorMhR9
namespace Go.Proofs.YtefkcmeeagflmaaDoor
open Go.RowKit
set_option linter.unusedVariables false
set_option linter.unusedSimpArgs false

set_option maxRecDepth 100000 in
set_option maxHeartbeats 8000000 in
theorem isoSelf_walk (L : List OR) (w : World) (a0 : Option Addr) (len cap : Nat) (hlen : L.length = len) (hL : ORs w.heap.size w a0 L) (hsrc : ∀ (i : Nat) (x : OR), L[i]? = some x → Src w.heap.size w x.a x.m x.c x.xs) (hF : ∀ y, y ∈ L → OFn y) (ht : totO L ≤ 2000000)
    (xs : List (Int × Int)) (a1 : Option Addr) (n c1 : Nat) (hx : Src w.heap.size w a1 n c1 xs) (hc1 : n ≤ c1) (hwx : ∀ c, c ∈ xs → (Lit.int .i64 c.2).wf = true) (hn : n ≤ 2000000) (p q : Int) (hq : (Lit.int .i64 q).wf = true) (TT : Pw w) :
    Calls Tryd.prog 8 #[.slice a0 len cap, .slice a1 n c1, .agg #[.int .i64 p, .int .i64 q]] w fun e w' => e = .returned (.bool true) ∧ Fr [] w w' := by
  obtain ⟨i45, hi, hz, hs, hby⟩ := info_parts info45
  go_enter Tryd.func8, Tryd.ntmps8
  go_wp2_with fail
  have f0 : Fr [] w (w.alloc (.cells #[.int .i64 p, .int .i64 q] 45)) := (Fr.refl _ _).alloc _
  have B0 : (w.alloc (.cells #[.int .i64 p, .int .i64 q] 45)).heap[w.heap.size]? = some (.cells #[.int .i64 p, .int .i64 q] 45 (0, 0)) := heap_alloc_new w _
  generalize w.alloc (.cells #[.int .i64 p, .int .i64 q] 45) = w0 at *
  refine (awake_any w0 (TT.fr f0 (by simp))).mono ?_
  rintro e w1 ⟨rfl, f1⟩
  have F1 := f0.trans f1
  go_wp2_with fail
  refine (few_any L w1 a0 len cap a1 n c1 w1.heap.size (Nat.le_refl _) hlen (hL.fr F1 (Nat.le_refl _)) ht hn).mono ?_
  rintro e w2 ⟨rfl, b2⟩
  have f2 := Fr.ofBelow b2
  have F2 := F1.trans f2
  by_cases hfew : n + totO L ≤ 300
  · rw [decide_eq_true hfew]
    go_wp2_with fail
    refine (laid_any L w2 a0 len cap hlen (hL.fr F2 (Nat.le_refl _)) (by omega) (fun i x hx' => (hsrc i x hx').up F2 (Nat.le_refl _))).mono ?_
    rintro e w3 ⟨rfl, ⟨sv3, sr3, T3, U3, J3, ab3⟩, f3⟩
    have F3 := F2.trans f3
    rw [List.take_of_length_le (by omega)] at ab3
    generalize w2.heap.size = k2 at *
    go_wp2_with fail
    refine (laid_any L w3 a0 len cap hlen (hL.fr F3 (Nat.le_refl _)) (by omega) (fun i x hx' => (hsrc i x hx').up F3 (Nat.le_refl _))).mono ?_
    rintro e w4 ⟨rfl, ⟨sv4, sr4, T4, U4, J4, ab4⟩, f4⟩
    have F4 := F3.trans f4
    rw [List.take_of_length_le (by omega)] at ab4
    generalize w3.heap.size = k3 at *
    have RA := J3.R.frame f4 (by simp)
    have RB := J4.R
    obtain ⟨fA, _⟩ := laid_fine ab3 hF (by omega)
    obtain ⟨fB, _⟩ := laid_fine ab4 hF (by omega)
    have htot : tot (L.map OR.abs) ≤ 300 := by have := wgO L hF 0; unfold tot; omega
    have hxl := hx.len
    have X4 := (hx.fr F4 (by simp)).lies
    have B4 := (((f1.trans f2).trans (f3.trans f4)).block _ (Array.getElem?_eq_some_iff.1 B0).1 (by simp)).trans B0
    generalize w.heap.size = kb at *
    have b0 : ∀ w' : World, Fr [] w4 w' → w'.cell? ⟨kb, 0, none⟩ = some (.int .i64 p) := fun w' h => at_cells ((h.block _ (Array.getElem?_eq_some_iff.1 B4).1 (by simp)).trans B4) 0 rfl
    have b1 : ∀ w' : World, Fr [] w4 w' → w'.cell? ⟨kb, 1, none⟩ = some (.int .i64 q) := fun w' h => at_cells ((h.block _ (Array.getElem?_eq_some_iff.1 B4).1 (by simp)).trans B4) 1 rfl
    have HD : ∀ w' : World, Fr [] w4 w' → Fr [] w4 w'.drew := fun w' h => h.drew
    have HA : ∀ (w' : World) (o : Obj), Fr [] w4 w' → Fr [] w4 (w'.alloc o) := fun w' o h => h.alloc o
    have R0 : Fr [] w4 w4 := Fr.refl _ _
    have hnI : (n : Int) ≤ 1000000 := by omega
    have hA1 : xs.length + tot (T3.map Thing.abs) ≤ 1000000 := by rw [ab3]; omega
    clear hL hsrc B0 J3 J4 f0 f1 f2 f3 f4 b2 F1 F2 F3
    have CS : ∀ w', Fr [] w4 w' → Calls Tryd.prog 12 #[.pointer (some ⟨k2, 0, none⟩), .slice a1 n c1, .pointer (some ⟨k2, 0, none⟩), .slice a1 n c1] w' fun e w'' => e = .returned (.bool true) ∧ Fr [] w' w'' := fun w' h => by
      refine (Same_any (RA.frame h (by simp)) (RA.frame h (by simp)) fA fA xs xs n n hxl hxl a1 a1 c1 c1 (X4.fr h (by simp)) (X4.fr h (by simp)) hnI hwx hwx hA1).mono ?_
      rintro e w'' ⟨r, rfl, hr, f⟩
      exact ⟨by rw [hr.2 (Alike.refl _ _)], f⟩
    have CT : ∀ w', Fr [] w4 w' → Calls Tryd.prog 12 #[.pointer (some ⟨k2, 0, none⟩), .slice a1 n c1, .pointer (some ⟨k3, 0, none⟩), .slice a1 n c1] w' fun e w'' => e = .returned (.bool true) ∧ Fr [] w' w'' := fun w' h => by
      refine (Same_any (RA.frame h (by simp)) (RB.frame h (by simp)) fA fB xs xs n n hxl hxl a1 a1 c1 c1 (X4.fr h (by simp)) (X4.fr h (by simp)) hnI hwx hwx hA1).mono ?_
      rintro e w'' ⟨r, rfl, hr, f⟩
      refine ⟨by rw [hr.2 (by rw [ab3, ab4]; exact Alike.refl _ _)], f⟩
    have CU : ∀ w' (av : Value) (B : Nat), Fr [] w4 w' → w'.ownsRow B 45 2 av (n + 1) (flat (xs ++ [(p, q)])) → Calls Tryd.prog 12 #[.pointer (some ⟨k2, 0, none⟩), .slice a1 n c1, .pointer (some ⟨k3, 0, none⟩), av] w' fun e w'' => e = .returned (.bool false) ∧ Fr [] w' w'' := fun w' av B h ho => by
      obtain ⟨g, c, rfl, hl⟩ := own_lies ho (by omega)
      refine (Same_any (RA.frame h (by simp)) (RB.frame h (by simp)) fA fB xs (xs ++ [(p, q)]) n (n + 1) hxl (by simp [hxl]) a1 _ c1 c (X4.fr h (by simp)) hl hnI hwx (fun c hc => by simp at hc; rcases hc with hc | rfl; exact hwx c hc; exact hq) hA1).mono ?_
      rintro e w'' ⟨r, rfl, hr, f⟩
      refine ⟨?_, f⟩
      cases r with
      | false => rfl
      | true =>
        obtain ⟨R, _, hx'⟩ := hr.1 rfl
        have := hx'.len
        simp at this
    have hnews : ∀ w', Fr [] w4 w' → ∀ ad, a1 = some ad → ∀ j u, (flat xs)[j]? = some u → w'.cell? (ad.add j) = some u := fun w' h ad e j u hu => by
      have hne : xs ≠ [] := by
        intro e2
        rw [e2] at hu
        simp [flat] at hu
      obtain ⟨ad', e', hc⟩ := X4.fr h (by simp) (by cases xs with | nil => exact absurd rfl hne | cons _ _ => simp)
      rw [e] at e'
      injection e' with e'
      subst e'
      exact hc j u hu
    have hfl : (flat xs).length = n * 2 := by rw [flat_length, hxl]
    have hone := flat_one xs
    have hnone := hx.none
    go_wp2_with fail
    refine reg9 CS CT CU b0 b1 hnews hfl hone hnone hn ?_
    intro t33 t34 t35 t36 t37 t38 t39 t40 t41 t42 t43 t44 t45 t46 t47 t48 t49 t50 t51 t52 t53 t54 t55 t56 w9 F9
    have G9 : Fr [] w w9 := F4.trans F9
    go_wp2
    go_ret
    exact ⟨rfl, G9⟩
  · rw [decide_eq_false hfew]
    go_wp2
    go_ret
    exact ⟨rfl, F2⟩
end Go.Proofs.YtefkcmeeagflmaaDoor
