/-
  Where nothing is odd heaps are alike just if they are shown alike; conditions: what comes in can be read and is not too much, the library's table lies as told.
-/
import Derived.Test.YtefkcmeeagflmaaDoorMhOddA
import Derived.Test.YtefkcmeeagflmaaDoorMgLJPN
import Derived.Test.YtefkcmeeagflmaaDoorMgDNND
namespace Go.Proofs.YtefkcmeeagflmaaDoor
open Go.RowKit
set_option linter.unusedVariables false
set_option linter.unusedSimpArgs false

theorem laid_ref2 {L : List OR} {T : List Thing} {U : List RT} (hs : T.map Thing.abs = U.map RT.abs) (h : T.map Thing.abs = L.map OR.abs) (hF : ∀ y, y ∈ L → OFn y) (ht : totO L ≤ 300) : (∀ u, u ∈ U → u.cells.length ≤ 1000) ∧ U.length ≤ 1000 := by
  have hab : U.map RT.abs = L.map OR.abs := hs.symm.trans h
  constructor
  · intro u hu
    have : u.abs ∈ L.map OR.abs := by rw [← hab]; exact List.mem_map_of_mem hu
    simp only [List.mem_map] at this
    obtain ⟨y, hy, e⟩ := this
    simp only [OR.abs, RT.abs, Prod.mk.injEq] at e
    obtain ⟨i, hi⟩ := List.getElem?_of_mem hy
    have hm := totO_at L i y hi
    have hl := (hF y hy).len
    rw [← e.2]
    omega
  · have := congrArg List.length hab
    simp at this
    have := totO_len L
    omega
theorem laid_ls (L : List OR) : Ls (L.map OR.abs) := by
  intro p o h
  unfold thingAt at h
  split at h
  · have := List.mem_of_getElem? h
    simp only [List.mem_map] at this
    obtain ⟨y, _, rfl⟩ := this
    simp only [OR.abs, laySort]
    split <;> omega
  · cases h
theorem bt_ne {a b : List UInt8} (h : a ≠ b) : ((bt a).toList == (bt b).toList) = false := by
  rw [ByteArray.toList_eq, ByteArray.toList_eq]
  simp [bt, h]

set_option maxRecDepth 100000 in
set_option maxHeartbeats 8000000 in
theorem isoTexts_walk (L : List OR) (w : World) (a0 : Option Addr) (len cap : Nat) (hlen : L.length = len) (hL : ORs w.heap.size w a0 L) (hsrc : ∀ (i : Nat) (x : OR), L[i]? = some x → Src w.heap.size w x.a x.m x.c x.xs) (hF : ∀ y, y ∈ L → OFn y) (ht : totO L ≤ 2000000)
    (xs : List (Int × Int)) (a1 : Option Addr) (n c1 : Nat) (hx : Src w.heap.size w a1 n c1 xs) (hc1 : n ≤ c1) (hwx : ∀ c, c ∈ xs → (Lit.int .i64 c.2).wf = true) (hn : n ≤ 2000000)
    (M : List OR) (a2 : Option Addr) (len2 cap2 : Nat) (hlen2 : M.length = len2) (hM : ORs w.heap.size w a2 M) (hsrc2 : ∀ (i : Nat) (x : OR), M[i]? = some x → Src w.heap.size w x.a x.m x.c x.xs) (hG : ∀ y, y ∈ M → OFn y) (ht2 : totO M ≤ 2000000)
    (ys : List (Int × Int)) (a3 : Option Addr) (m c3 : Nat) (hy : Src w.heap.size w a3 m c3 ys) (hc3 : m ≤ c3) (hwy : ∀ c, c ∈ ys → (Lit.int .i64 c.2).wf = true) (hm : m ≤ 2000000) (TT : Pw w) :
    Calls Tryd.prog 6 #[.slice a0 len cap, .slice a1 n c1, .slice a2 len2 cap2, .slice a3 m c3] w fun e w' => e = .returned (.bool true) ∧ Fr [] w w' := by
  go_enter Tryd.func6, Tryd.ntmps6
  go_wp2_with fail
  refine (awake_any w TT).mono ?_
  rintro e w1 ⟨rfl, F1⟩
  go_wp2_with fail
  refine (few_any L w1 a0 len cap a1 n c1 w1.heap.size (Nat.le_refl _) hlen (hL.fr F1 (Nat.le_refl _)) ht hn).mono ?_
  rintro e w2 ⟨rfl, b2⟩
  have f2 := Fr.ofBelow b2
  have F2 := F1.trans f2
  by_cases hfew : n + totO L ≤ 300
  · rw [decide_eq_true hfew]
    go_wp2_with fail
    refine (few_any M w2 a2 len2 cap2 a3 m c3 w2.heap.size (Nat.le_refl _) hlen2 (hM.fr F2 (Nat.le_refl _)) ht2 hm).mono ?_
    rintro e w2' ⟨rfl, b2'⟩
    have f2' := Fr.ofBelow b2'
    have F2' := F2.trans f2'
    by_cases hfew2 : m + totO M ≤ 300
    · rw [decide_eq_true hfew2]
      go_wp2_with fail
      refine (laid_any L w2' a0 len cap hlen (hL.fr F2' (Nat.le_refl _)) (by omega) (fun i x hx' => (hsrc i x hx').up F2' (Nat.le_refl _))).mono ?_
      rintro e w3 ⟨rfl, ⟨sv3, sr3, T3, U3, J3, ab3⟩, f3⟩
      have F3 := F2'.trans f3
      rw [List.take_of_length_le (by omega)] at ab3
      generalize w2'.heap.size = k2 at *
      go_wp2_with fail
      refine (laid_any M w3 a2 len2 cap2 hlen2 (hM.fr F3 (Nat.le_refl _)) (by omega) (fun i x hx' => (hsrc2 i x hx').up F3 (Nat.le_refl _))).mono ?_
      rintro e w4 ⟨rfl, ⟨sv4, sr4, T4, U4, J4, ab4⟩, f4⟩
      have F4 := F3.trans f4
      rw [List.take_of_length_le (by omega)] at ab4
      generalize w3.heap.size = k3 at *
      have RA := J3.R.frame f4 (by simp)
      have QA := J3.Q.frame f4 (by simp)
      have RB := J4.R
      have QB := J4.Q
      obtain ⟨fA, hsoA⟩ := laid_fine ab3 hF (by omega)
      obtain ⟨fB, hsoB⟩ := laid_fine ab4 hG (by omega)
      obtain ⟨hU, hUl⟩ := laid_ref2 J3.same ab3 hF (by omega)
      obtain ⟨hV, hVl⟩ := laid_ref2 J4.same ab4 hG (by omega)
      have htot : tot (L.map OR.abs) ≤ 300 := by have := wgO L hF 0; unfold tot; omega
      have htot2 : tot (M.map OR.abs) ≤ 300 := by have := wgO M hG 0; unfold tot; omega
      have hw2 : lft wt2 (L.map OR.abs) [] ≤ 2 * totO L := wgO2 L hF 0
      have hw3 : lft wt2 (M.map OR.abs) [] ≤ 2 * totO M := wgO2 M hG 0
      have hr1 := reach_len (L.map OR.abs) xs
      have hr2 := reach_len (M.map OR.abs) ys
      have hxl := hx.len
      have hyl := hy.len
      have X4 := (hx.fr F4 (by simp)).lies
      have Y4 := (hy.fr F4 (by simp)).lies
      have P4 := TT.fr F4 (by simp)
      have sA : U3.map RT.abs = L.map OR.abs := J3.same.symm.trans ab3
      have sB : U4.map RT.abs = M.map OR.abs := J4.same.symm.trans ab4
      have C1 : ∀ w', Fr [] w4 w' → Calls Tryd.prog 12 #[.pointer (some ⟨k2, 0, none⟩), .slice a1 n c1, .pointer (some ⟨k3, 0, none⟩), .slice a3 m c3] w' fun e w'' => ∃ r, e = .returned (.bool r) ∧ (r = true ↔ Alike (L.map OR.abs) xs (M.map OR.abs) ys) ∧ Fr [] w' w'' := fun w' h => by
        refine (Same_any (RA.frame h (by simp)) (RB.frame h (by simp)) fA fB xs ys n m hxl hyl a1 a3 c1 c3 (X4.fr h (by simp)) (Y4.fr h (by simp)) (by omega) hwx hwy (by rw [ab3]; omega)).mono ?_
        rw [ab3, ab4]
        exact fun e w'' h => h
      have C2 : ∀ w', Fr [] w4 w' → Calls Tryd.prog 16 #[.pointer (some ⟨k2, 0, none⟩), .slice a1 n c1] w' fun e w'' => e = .returned (.string (bt (showR (L.map OR.abs) xs))) ∧ Fr [] w' w'' := fun w' h => by
        refine (Show_any (RA.frame h (by simp)) fA hsoA (P4.fr h (by simp)) xs a1 n c1 hxl (X4.fr h (by simp)) hc1 hwx (by rw [ab3]; omega) (by rw [ab3]; omega)).mono ?_
        rw [ab3]
        exact fun e w'' h => h
      have C3 : ∀ w', Fr [] w4 w' → Calls Tryd.prog 16 #[.pointer (some ⟨k3, 0, none⟩), .slice a3 m c3] w' fun e w'' => e = .returned (.string (bt (showR (M.map OR.abs) ys))) ∧ Fr [] w' w'' := fun w' h => by
        refine (Show_any (RB.frame h (by simp)) fB hsoB (P4.fr h (by simp)) ys a3 m c3 hyl (Y4.fr h (by simp)) hc3 hwy (by rw [ab4]; omega) (by rw [ab4]; omega)).mono ?_
        rw [ab4]
        exact fun e w'' h => h
      have O1 : ∀ w', Fr [] w4 w' → Calls Tryd.prog 18 #[.pointer (some ⟨k2 + 1, 0, none⟩), .slice a1 n c1] w' (OddP (L.map OR.abs) xs w') := fun w' h => by
        have := odd_any (QA.frame h (by simp)) hU hUl xs a1 n c1 hxl (X4.fr h (by simp)) hx.none (by omega) (by rw [sA]; omega)
        rwa [sA] at this
      have O2 : ∀ w', Fr [] w4 w' → Calls Tryd.prog 18 #[.pointer (some ⟨k3 + 1, 0, none⟩), .slice a3 m c3] w' (OddP (M.map OR.abs) ys w') := fun w' h => by
        have := odd_any (QB.frame h (by simp)) hV hVl ys a3 m c3 hyl (Y4.fr h (by simp)) hy.none (by omega) (by rw [sB]; omega)
        rwa [sB] at this
      clear hL hM hsrc hsrc2 J3 J4 RA RB QA QB fA fB hU hUl hV hVl X4 Y4 sA sB ab3 ab4 hx hy F1 F2 F2' F3 f2 f2' f3 f4 b2 b2' P4 hsoA hsoB hr1 hr2 hw2 hw3
      have R0 : Fr [] w4 w4 := Fr.refl _ _
      go_wp2_with fail
      refine (O1 _ R0).mono ?_
      rintro e w5 ⟨r5, rfl, hr5, f5⟩
      have G5 : Fr [] w w5 := F4.trans f5
      cases r5 with
      | true =>
        clear C1 C2 C3 O1 O2
        go_wp2
        go_ret
        exact ⟨rfl, G5⟩
      | false =>
        have HA : Hid ((∀ c, c ∈ xs → Ev (L.map OR.abs) c) ∧ ∀ i, i ∈ reachR (L.map OR.abs) xs → Gd (L.map OR.abs) i) := hr5 rfl
        clear hr5
        go_wp2_with fail
        refine (O2 _ f5).mono ?_
        rintro e w6 ⟨r6, rfl, hr6, f6⟩
        have F6 := f5.trans f6
        have G6 : Fr [] w w6 := F4.trans F6
        cases r6 with
        | true =>
          clear C1 C2 C3 O1 O2
          go_wp2
          go_ret
          exact ⟨rfl, G6⟩
        | false =>
          have HB : Hid ((∀ c, c ∈ ys → Ev (M.map OR.abs) c) ∧ ∀ i, i ∈ reachR (M.map OR.abs) ys → Gd (M.map OR.abs) i) := hr6 rfl
          clear hr6 O1 O2
          go_wp2_with fail
          refine (C1 _ F6).mono ?_
          rintro e w7 ⟨d, rfl, hd, f7⟩
          have F7 := F6.trans f7
          have HD : Hid (d = true ↔ Alike (L.map OR.abs) xs (M.map OR.abs) ys) := hd
          clear hd
          go_wp2_with fail
          refine (C2 _ F7).mono ?_
          rintro e w8 ⟨rfl, f8⟩
          have F8 := F7.trans f8
          go_wp2_with fail
          refine (C3 _ F8).mono ?_
          rintro e w9 ⟨rfl, f9⟩
          have G9 : Fr [] w w9 := F4.trans (F8.trans f9)
          clear C1 C2 C3
          cases d with
          | true =>
            rw [show showR (M.map OR.abs) ys = showR (L.map OR.abs) xs from (show_alike (HD.out.1 rfl)).symm]
            generalize bt (showR (L.map OR.abs) xs) = S
            go_wp2
            go_ret
            exact ⟨rfl, G9⟩
          | false =>
            have hne : showR (L.map OR.abs) xs ≠ showR (M.map OR.abs) ys := fun h => by
              have := HD.out.2 (texts_alike (laid_ls L) (laid_ls M) HA.out.1 HB.out.1 HA.out.2 HB.out.2 h)
              cases this
            have hq := bt_ne hne
            clear hne
            generalize bt (showR (L.map OR.abs) xs) = S1 at *
            generalize bt (showR (M.map OR.abs) ys) = S2 at *
            go_wp2
            go_ret
            exact ⟨rfl, G9⟩
    · rw [decide_eq_false hfew2]
      go_wp2
      go_ret
      exact ⟨rfl, F2'⟩
  · rw [decide_eq_false hfew]
    go_wp2
    go_ret
    exact ⟨rfl, F2⟩
end Go.Proofs.YtefkcmeeagflmaaDoor
