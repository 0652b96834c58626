/-
  The reference's Arr and Lay; conditions: the limit from 0 to 10,000,000, what is taken from 0 to the limit, at most 10 to the 12th things.
-/
import Derived.Test.YtkjkpkmmojchiaaGreatDoorHeapW
namespace Go.Proofs.YtkjkpkmmojchiaaGreatDoor
open Go.RowKit

set_option maxRecDepth 100000 in
set_option maxHeartbeats 400000 in
theorem rarr_kind {w : World} {b : Nat} (k n : Int) (hk : k ≠ 0) :
    Calls Tryz.prog 123 #[.pointer (some ⟨b, 0, none⟩), .agg #[.int .i64 k, .int .i64 n]] w fun e w' => e = .returned (.tuple #[.agg #[.int .i64 0, .int .i64 0], .int .i64 6]) ∧ Fr [] w w' := by
  have hk2 : (k != 0) = true := by rw [bne_iff_ne]; exact hk
  go_enter Tryz.func123, Tryz.ntmps123
  go_wp2
  refine bodyPost_ret (v := .tuple #[.agg #[.int .i64 0, .int .i64 0], .int .i64 6]) (by simp [results, Tryz.results123, go_sem]) rfl ⟨rfl, ?_⟩
  exact ((Fr.refl _ _).alloc _).alloc _

set_option maxRecDepth 100000 in
set_option maxHeartbeats 400000 in
theorem rarr_neg {w : World} {b : Nat} (n : Int) (hn : n < 0) :
    Calls Tryz.prog 123 #[.pointer (some ⟨b, 0, none⟩), .agg #[.int .i64 0, .int .i64 n]] w fun e w' => e = .returned (.tuple #[.agg #[.int .i64 0, .int .i64 0], .int .i64 2]) ∧ Fr [] w w' := by
  go_enter Tryz.func123, Tryz.ntmps123
  go_wp2
  refine bodyPost_ret (v := .tuple #[.agg #[.int .i64 0, .int .i64 0], .int .i64 2]) (by simp [results, Tryz.results123, go_sem]) rfl ⟨rfl, ?_⟩
  exact ((Fr.refl _ _).alloc _).alloc _

set_option maxRecDepth 100000 in
set_option maxHeartbeats 400000 in
theorem rarr_full {w : World} {b : Nat} {lim used : Int} {sv : Value} {rk rn : Int} (h : RH w b lim used sv rk rn) (n : Int) (h0 : 0 ≤ n) (hl : 0 ≤ lim) (hu : 0 ≤ used) (hul : used ≤ lim) (hlm : lim ≤ 10000000) (hc : lim - used < 1 + n) :
    Calls Tryz.prog 123 #[.pointer (some ⟨b, 0, none⟩), .agg #[.int .i64 0, .int .i64 n]] w fun e w' => e = .returned (.tuple #[.agg #[.int .i64 0, .int .i64 0], .int .i64 5]) ∧ Fr [] w w' := by
  have hA : ∀ o o', RH ((w.alloc o).alloc o') b lim used sv rk rn := fun o o' => h.fr (S := []) (((Fr.refl _ _).alloc o).alloc o') (by simp)
  have c1 := fun o o' => (hA o o').c1
  have c2 := fun o o' => (hA o o').c2
  have hlt := h.lt
  have hd : lim - used ≤ n := by omega
  go_enter Tryz.func123, Tryz.ntmps123
  go_wp2
  go_quiet (fail)
  go_wp2
  refine bodyPost_ret (v := .tuple #[.agg #[.int .i64 0, .int .i64 0], .int .i64 5]) (by simp [results, Tryz.results123, go_sem]) rfl ⟨rfl, ?_⟩
  exact Fr.setCell (Fr.setCell (Fr.drewN (((Fr.refl _ _).alloc _).alloc _) _) (.inr (by simp)) _) (.inr (by simp)) _

theorem rarr_no {w : World} {b : Nat} {lim used : Int} {sv : Value} {rk rn : Int} (h : RH w b lim used sv rk rn) (k n : Int) (hl : 0 ≤ lim) (hu : 0 ≤ used) (hul : used ≤ lim) (hlm : lim ≤ 10000000) (hc : arrMake lim used k n ≠ 0) :
    Calls Tryz.prog 123 #[.pointer (some ⟨b, 0, none⟩), .agg #[.int .i64 k, .int .i64 n]] w fun e w' => e = .returned (.tuple #[.agg #[.int .i64 0, .int .i64 0], .int .i64 (arrMake lim used k n)]) ∧ Fr [] w w' := by
  unfold arrMake at hc ⊢
  by_cases h1 : k = 0
  · subst h1
    rw [if_pos rfl] at hc ⊢
    by_cases h2 : n < 0
    · rw [if_pos h2]
      exact rarr_neg n h2
    · rw [if_neg h2] at hc ⊢
      split at hc
      · rename_i h3
        rw [if_pos h3]
        exact rarr_full h n (by omega) hl hu hul hlm h3
      · omega
  · rw [if_neg h1]
    exact rarr_kind k n h1

set_option maxRecDepth 100000 in
set_option maxHeartbeats 600000 in
theorem rarr_yes {w : World} {B b : Nat} {lim used : Int} {sv : Value} {rk rn : Int} {U : List RT} (h : RRep w B b lim used sv rk rn U) (n : Int) (h0 : 0 ≤ n) (hl : 0 ≤ lim) (hu : 0 ≤ used) (hul : used ≤ lim) (hlm : lim ≤ 10000000) (hc : 1 + n ≤ lim - used) (hT : U.length ≤ 1000000000000) :
    Calls Tryz.prog 123 #[.pointer (some ⟨b, 0, none⟩), .agg #[.int .i64 0, .int .i64 n]] w fun e w' => e = .returned (.tuple #[.agg #[.int .i64 2, .int .i64 U.length], .int .i64 0]) ∧
      ∃ sv' u, RRep w' B b lim (used + (1 + n)) sv' rk rn (U ++ [u]) ∧ u.sort = -1 ∧ u.cells = List.replicate n.toNat ((0 : Int), (0 : Int)) ∧ (∀ k, u.sl.ownBlock = some k → w.heap.size ≤ k) ∧ Fr (b :: sv.ownBlock.toList) w w' ∧ (∀ k, sv'.ownBlock = some k → sv.ownBlock = some k ∨ w.heap.size ≤ k) := by
  have hlt := h.hb.lt
  have hA : ∀ o o', RH ((w.alloc o).alloc o') b lim used sv rk rn := fun o o' => h.hb.fr (S := []) (((Fr.refl _ _).alloc o).alloc o') (by simp)
  have c1 := fun o o' => (hA o o').c1
  have c2 := fun o o' => (hA o o').c2
  have z2 := fun o o' => (hA o o').fz 2
  have hmk := make_int n h0 (by omega)
  have hd : ¬ lim - used ≤ n := by omega
  go_enter Tryz.func123, Tryz.ntmps123
  go_wp2
  go_quiet (fail)
  go_wp2
  go_region
  go_wp2_with fail
  have hR1 : RRep (w.alloc (.cells #[.int .i64 0, .int .i64 n] 33)) B b lim used sv rk rn U := h.frame (S := []) ((Fr.refl _ _).alloc _) (by simp)
  obtain ⟨q1, q2, q3, q4, q5⟩ := rmk_world hR1 (w.heap.size + 1) (by simp) (.cells #[.int .i64 0, .int .i64 0] 33) (nq + 1) (used + (1 + n)) (List.replicate n.toNat ((0 : Int), (0 : Int)))
  refine (rlay_any q1 (-1) _ (some ⟨w.heap.size + 1 + 1, 0, none⟩) n.toNat n.toNat (by simp) q2 (by simp) (by omega) hT).mono ?_
  rintro e w' ⟨rfl, sv', u, p1, p2, p3, p4, p5, p6⟩
  have hL : w'.heap[w.heap.size + 1]? = some (.cells #[.int .i64 0, .int .i64 0] 33) := by
    rw [p5.block _ (by omega) ?_]
    · exact q4
    · simp only [List.mem_cons, Option.mem_toList, not_or]
      exact ⟨by omega, fun e => by have := h.row.lt _ e; omega⟩
  have hFr : Fr (b :: sv.ownBlock.toList) w w' := (((Fr.refl _ _).alloc _).trans q3).trans p5
  obtain ⟨hl0, hl1, hlf⟩ := res30 hL
  rw [q5] at p4 p6
  clear q1 q2 q3 q4 q5 hmk hA c1 c2 z2 hR1
  go_wp2
  refine bodyPost_ret (v := .tuple #[.agg #[.int .i64 2, .int .i64 U.length], .int .i64 0]) (by simp [results, Tryz.results123, go_sem, hl0, hl1]) rfl ⟨rfl, sv', u, ?_, p2, p3, fun k hk => by have := p4 k hk; omega, ?_, ?_⟩
  · refine p1.fr (Fr.setCell (Fr.setCell (Fr.refl [w.heap.size + 1] _) (.inl (by simp)) _) (.inl (by simp)) _) ?_
    intro k hk hm
    simp at hm
    subst hm
    unfold rfoot at hk
    simp only [List.mem_cons, List.mem_append, Option.mem_toList, List.mem_flatMap] at hk
    rcases hk with e | e | ⟨v, hv, e⟩
    · omega
    · exact own_ne p1.row hL (by decide) e
    · rcases hv with hv | hv
      · have := h.lt _ (mem_flatMap_own hv e b sv); omega
      · simp at hv
        subst hv
        have := p4 _ e
        omega
  · exact Fr.setCell (Fr.setCell hFr (.inr (by simp)) _) (.inr (by simp)) _
  · intro j hj
    rcases p6 j hj with e | e
    · exact .inl e
    · exact .inr (by omega)

end Go.Proofs.YtkjkpkmmojchiaaGreatDoor
