/-
  The reference's Rec, Arr and Lay, and the code's Rec where its arguments are wrong; conditions: the limit from 0 to 10,000,000, what is taken from 0 to the limit, at most 10 to the 12th things.
-/
import Derived.Test.YtkjkpkmmojchiaaGreatDoorHeapV
namespace Go.Proofs.YtkjkpkmmojchiaaGreatDoor
open Go.RowKit

theorem row_lies {w : World} {g : Nat} {xs : List (Int × Int)} (h : w.heap[g]? = some (.cells (flat xs).toArray 33 (0, 0))) : Lies w (some ⟨g, 0, none⟩) xs := by
  intro _
  refine ⟨_, rfl, fun j u hj => ?_⟩
  have hadd : (⟨g, 0, none⟩ : Addr).add j = ⟨g, j, none⟩ := by unfold Addr.add; split <;> simp_all
  rw [hadd]
  simp [World.cell?, h, hj]

set_option maxRecDepth 100000 in
set_option maxHeartbeats 400000 in
theorem rec_type {w : World} {b : Nat} {lim used : Int} {sv : Value} {rk rn : Int} (h : HB w b lim used sv rk rn) (r f : Int) (hc : r < 0 ∨ f < 0 ∨ 1000 < f) :
    Calls Tryz.prog 143 #[.pointer (some ⟨b, 0, none⟩), .int .i64 r, .int .i64 f] w fun e w' => e = .returned (.tuple #[.agg #[.int .i64 0, .int .i64 0], .int .i64 6]) ∧ Fr [] w w' := by
  have hA : ∀ o, HB (w.alloc o) b lim used sv rk rn := fun o => h.fr (S := []) ((Fr.refl _ _).alloc o) (by simp)
  go_enter Tryz.func143, Tryz.ntmps143
  go_wp2_with (first | (go_at_call 85; refine (alive_any _ _ (hA _).c0).mono ?_; rintro e w' ⟨rfl, rfl⟩))
  all_goals first | (exfalso; omega) | skip
  all_goals (refine bodyPost_ret (v := .tuple #[.agg #[.int .i64 0, .int .i64 0], .int .i64 6]) (by simp [results, Tryz.results143, go_sem]) rfl ⟨rfl, ?_⟩)
  all_goals first | exact (Fr.refl _ _).alloc _ | exact Fr.setCell (Fr.setCell ((Fr.refl _ _).alloc _) (.inr (by simp)) _) (.inr (by simp)) _

set_option maxRecDepth 100000 in
set_option maxHeartbeats 400000 in
theorem rrec_type {w : World} {b : Nat} (r f : Int) (hc : r < 0 ∨ f < 0 ∨ 1000 < f) :
    Calls Tryz.prog 122 #[.pointer (some ⟨b, 0, none⟩), .int .i64 r, .int .i64 f] w fun e w' => e = .returned (.tuple #[.agg #[.int .i64 0, .int .i64 0], .int .i64 6]) ∧ Fr [] w w' := by
  go_enter Tryz.func122, Tryz.ntmps122
  go_wp2_with fail
  all_goals first | (exfalso; omega) | skip
  all_goals (refine bodyPost_ret (v := .tuple #[.agg #[.int .i64 0, .int .i64 0], .int .i64 6]) (by simp [results, Tryz.results122, go_sem]) rfl ⟨rfl, ?_⟩)
  all_goals first | exact (Fr.refl _ _).alloc _ | exact Fr.setCell (Fr.setCell ((Fr.refl _ _).alloc _) (.inr (by simp)) _) (.inr (by simp)) _

set_option maxRecDepth 100000 in
set_option maxHeartbeats 400000 in
theorem rrec_no {w : World} {b : Nat} {lim used : Int} {sv : Value} {rk rn : Int} (h : RH w b lim used sv rk rn) (r f : Int) (hr : 0 ≤ r) (hf : 0 ≤ f) (hf2 : f ≤ 1000) (hl : 0 ≤ lim) (hu : 0 ≤ used) (hul : used ≤ lim) (hlm : lim ≤ 10000000) (hc : lim - used < 1 + f) :
    Calls Tryz.prog 122 #[.pointer (some ⟨b, 0, none⟩), .int .i64 r, .int .i64 f] w fun e w' => e = .returned (.tuple #[.agg #[.int .i64 0, .int .i64 0], .int .i64 5]) ∧ Fr [] w w' := by
  have hlt := h.lt
  have hA : ∀ o, RH (w.alloc o) b lim used sv rk rn := fun o => h.fr (S := []) ((Fr.refl _ _).alloc o) (by simp)
  go_enter Tryz.func122, Tryz.ntmps122
  go_wp2_with (go_at_call 151; refine (rcharge_no _ (hA _) _ (by omega) hl hu hul hlm (by omega)).mono ?_; rintro e w' ⟨rfl, k, rfl⟩)
  refine bodyPost_ret (v := .tuple #[.agg #[.int .i64 0, .int .i64 0], .int .i64 5]) (by simp [results, Tryz.results122, go_sem]) rfl ⟨rfl, ?_⟩
  exact Fr.setCell (Fr.setCell (Fr.drewN ((Fr.refl _ _).alloc _) _) (.inr (by simp)) _) (.inr (by simp)) _

/-- The reference's world as it is when a new thing is laid. -/
theorem rmk_world {w : World} {B b : Nat} {lim used : Int} {sv : Value} {rk rn : Int} {U : List RT} (h : RRep w B b lim used sv rk rn U) (m : Nat) (hm : w.heap.size = m) (o1 : Obj) (k : Nat) (u : Int) (xs : List (Int × Int)) :
    RRep ((((w.alloc o1).drewN k).setCell ⟨b, 2, none⟩ (.int .i64 u)).alloc (.cells (flat xs).toArray 33)) B b lim u sv rk rn U ∧
    Lies ((((w.alloc o1).drewN k).setCell ⟨b, 2, none⟩ (.int .i64 u)).alloc (.cells (flat xs).toArray 33)) (some ⟨m + 1, 0, none⟩) xs ∧
    Fr (b :: sv.ownBlock.toList) w ((((w.alloc o1).drewN k).setCell ⟨b, 2, none⟩ (.int .i64 u)).alloc (.cells (flat xs).toArray 33)) ∧
    ((((w.alloc o1).drewN k).setCell ⟨b, 2, none⟩ (.int .i64 u)).alloc (.cells (flat xs).toArray 33)).heap[m]? = some o1 ∧
    ((((w.alloc o1).drewN k).setCell ⟨b, 2, none⟩ (.int .i64 u)).alloc (.cells (flat xs).toArray 33)).heap.size = m + 1 + 1 := by
  subst hm
  have hlt := h.hb.lt
  have a1 : RRep ((w.alloc o1).drewN k) B b lim used sv rk rn U := h.frame (S := []) (Fr.drewN ((Fr.refl _ _).alloc _) _) (by simp)
  have a2 := a1.setUsed u
  have s2 : (((w.alloc o1).drewN k).setCell ⟨b, 2, none⟩ (.int .i64 u)).heap.size = w.heap.size + 1 := by simp [World.setCell, World.drewN]
  have f2 : Fr (b :: sv.ownBlock.toList) w (((w.alloc o1).drewN k).setCell ⟨b, 2, none⟩ (.int .i64 u)) := Fr.setCell (Fr.drewN ((Fr.refl _ _).alloc _) _) (.inl (by simp)) _
  have n2 : (((w.alloc o1).drewN k).setCell ⟨b, 2, none⟩ (.int .i64 u)).heap[w.heap.size]? = some o1 := by
    rw [Below.heap_setCell _ _ _ _ (by simp; omega)]
    exact heap_alloc_new w o1
  generalize ((w.alloc o1).drewN k).setCell ⟨b, 2, none⟩ (.int .i64 u) = W2 at *
  refine ⟨a2.frame (S := []) ((Fr.refl _ _).alloc _) (by simp), ?_, f2.alloc _, ?_, by simp [s2]⟩
  · apply row_lies
    rw [← s2]
    exact heap_alloc_new W2 _
  · rw [Below.heap_alloc _ _ _ (by omega)]
    exact n2

set_option maxRecDepth 100000 in
set_option maxHeartbeats 400000 in
theorem rrec_yes {w : World} {B b : Nat} {lim used : Int} {sv : Value} {rk rn : Int} {U : List RT} (h : RRep w B b lim used sv rk rn U) (r n : Int) (hr : 0 ≤ r) (h0 : 0 ≤ n) (hf2 : n ≤ 1000) (hl : 0 ≤ lim) (hu : 0 ≤ used) (hul : used ≤ lim) (hlm : lim ≤ 10000000) (hc : 1 + n ≤ lim - used) (hT : U.length ≤ 1000000000000) :
    Calls Tryz.prog 122 #[.pointer (some ⟨b, 0, none⟩), .int .i64 r, .int .i64 n] w fun e w' => e = .returned (.tuple #[.agg #[.int .i64 2, .int .i64 U.length], .int .i64 0]) ∧
      ∃ sv' u, RRep w' B b lim (used + (1 + n)) sv' rk rn (U ++ [u]) ∧ u.sort = r ∧ u.cells = List.replicate n.toNat ((0 : Int), (0 : Int)) ∧ (∀ k, u.sl.ownBlock = some k → w.heap.size ≤ k) ∧ Fr (b :: sv.ownBlock.toList) w w' ∧ (∀ k, sv'.ownBlock = some k → sv.ownBlock = some k ∨ w.heap.size ≤ k) := by
  have hlt := h.hb.lt
  have hA : ∀ o, RH (w.alloc o) b lim used sv rk rn := fun o => h.hb.fr (S := []) ((Fr.refl _ _).alloc o) (by simp)
  have hmk := make_int n h0 (by omega)
  go_enter Tryz.func122, Tryz.ntmps122
  go_wp2_with (go_at_call 151; refine (rcharge_yes _ (hA _) _ (by omega) hl hu hul hlm (by omega)).mono ?_; rintro e w' ⟨rfl, k, rfl⟩)
  obtain ⟨q1, q2, q3, q4, q5⟩ := rmk_world h w.heap.size rfl (.cells #[.int .i64 0, .int .i64 0] 33) k (used + (1 + n)) (List.replicate n.toNat ((0 : Int), (0 : Int)))
  refine (rlay_any q1 r _ (some ⟨w.heap.size + 1, 0, none⟩) n.toNat n.toNat (by simp) q2 (by simp) (by omega) hT).mono ?_
  rintro e w' ⟨rfl, sv', u, p1, p2, p3, p4, p5, p6⟩
  have hL : w'.heap[w.heap.size]? = some (.cells #[.int .i64 0, .int .i64 0] 33) := by
    rw [p5.block _ (by omega) ?_]
    · exact q4
    · simp only [List.mem_cons, Option.mem_toList, not_or]
      exact ⟨by omega, fun e => by have := h.row.lt _ e; omega⟩
  have hFr : Fr (b :: sv.ownBlock.toList) w w' := q3.trans p5
  obtain ⟨hl0, hl1, hlf⟩ := res30 hL
  rw [q5] at p4 p6
  clear q1 q2 q3 q4 q5 hmk hA
  go_wp2
  refine bodyPost_ret (v := .tuple #[.agg #[.int .i64 2, .int .i64 U.length], .int .i64 0]) (by simp [results, Tryz.results122, go_sem, hl0, hl1]) rfl ⟨rfl, sv', u, ?_, p2, p3, fun k hk => by have := p4 k hk; omega, ?_, ?_⟩
  · refine p1.fr (Fr.setCell (Fr.setCell (Fr.refl [w.heap.size] _) (.inl (by simp)) _) (.inl (by simp)) _) ?_
    intro k hk hm
    simp at hm
    subst hm
    unfold rfoot at hk
    simp only [List.mem_cons, List.mem_append, Option.mem_toList, List.mem_flatMap] at hk
    rcases hk with e | e | ⟨v, hv, e⟩
    · omega
    · exact own_ne p1.row hL (by decide) e
    · rcases hv with hv | hv
      · have := h.lt _ (mem_flatMap_own hv e b sv); omega
      · simp at hv
        subst hv
        have := p4 _ e
        omega
  · exact Fr.setCell (Fr.setCell hFr (.inr (by simp)) _) (.inr (by simp)) _
  · intro j hj
    rcases p6 j hj with e | e
    · exact .inl e
    · exact .inr (by omega)
end Go.Proofs.YtkjkpkmmojchiaaGreatDoor
