/-
  Arr on a heap that New made, for every value; conditions: the limit from 0 to 10,000,000, what is taken from 0 to the limit, at most 10 to the 12th things.
-/
import Derived.Test.YtkjkpkmmojchiaaGreatDoorHeapK
namespace Go.Proofs.YtkjkpkmmojchiaaGreatDoor
open Go.RowKit

/-- The trap of a new array. -/
def arrMake (lim used k n : Int) : Int := if k = 0 then (if n < 0 then 2 else if lim - used < 1 + n then 5 else 0) else 6

theorem mk_world {w : World} {B b : Nat} {lim used : Int} {sv : Value} {rk rn : Int} {T : List Thing} (h : Rep w B b lim used sv rk rn T) (m : Nat) (hm : w.heap.size = m) (o1 : Obj) (k : Nat) (u : Int) (t : Thing) (h1 : t.rb = m + 1) (h2 : t.tb = m + 1 + 1) (o3 : Obj) (ho3 : t.body = o3) (X : Array Value) (hX : X = (flat t.cells).toArray) :
    Rep (((((w.alloc o1).drewN k).setCell ⟨b, 2, none⟩ (.int .i64 u)).alloc (.cells X 33)).alloc o3) B b lim u sv rk rn T ∧
    TAt (((((w.alloc o1).drewN k).setCell ⟨b, 2, none⟩ (.int .i64 u)).alloc (.cells X 33)).alloc o3) t ∧
    t.rb ∉ T.map Thing.rb ∧ B ≤ t.rb ∧
    Fr (b :: sv.ownBlock.toList) w (((((w.alloc o1).drewN k).setCell ⟨b, 2, none⟩ (.int .i64 u)).alloc (.cells X 33)).alloc o3) ∧
    (((((w.alloc o1).drewN k).setCell ⟨b, 2, none⟩ (.int .i64 u)).alloc (.cells X 33)).alloc o3).heap[m]? = some o1 := by
  subst hm
  exact rec_world h o1 k u t h1 h2 o3 ho3 X hX

set_option maxHeartbeats 400000 in
theorem Arr_kind {w : World} {b : Nat} {lim used : Int} {sv : Value} {rk rn : Int} (h : HB w b lim used sv rk rn) (k n : Int) (hk : k ≠ 0) :
    Calls Tryz.prog 144 #[.pointer (some ⟨b, 0, none⟩), .agg #[.int .i64 k, .int .i64 n]] w fun e w' => e = .returned (.tuple #[.agg #[.int .i64 0, .int .i64 0], .int .i64 6]) ∧ Fr [] w w' := by
  have hA : ∀ o o', HB ((w.alloc o).alloc o') b lim used sv rk rn := fun o o' => h.fr (S := []) (((Fr.refl _ _).alloc o).alloc o') (by simp)
  have hk2 : (k != 0) = true := by rw [bne_iff_ne]; exact hk
  go_enter Tryz.func144, Tryz.ntmps144
  go_wp2_with (first | (go_at_call 85; refine (alive_any _ _ (hA _ _).c0).mono ?_; rintro e w' ⟨rfl, rfl⟩))
  refine bodyPost_ret (v := .tuple #[.agg #[.int .i64 0, .int .i64 0], .int .i64 6]) (by simp [results, Tryz.results144, go_sem]) rfl ⟨rfl, ?_⟩
  exact ((Fr.refl _ _).alloc _).alloc _

set_option maxHeartbeats 400000 in
theorem Arr_neg {w : World} {b : Nat} {lim used : Int} {sv : Value} {rk rn : Int} (h : HB w b lim used sv rk rn) (n : Int) (hn : n < 0) :
    Calls Tryz.prog 144 #[.pointer (some ⟨b, 0, none⟩), .agg #[.int .i64 0, .int .i64 n]] w fun e w' => e = .returned (.tuple #[.agg #[.int .i64 0, .int .i64 0], .int .i64 2]) ∧ Fr [] w w' := by
  have hA : ∀ o o', HB ((w.alloc o).alloc o') b lim used sv rk rn := fun o o' => h.fr (S := []) (((Fr.refl _ _).alloc o).alloc o') (by simp)
  go_enter Tryz.func144, Tryz.ntmps144
  go_wp2_with (first | (go_at_call 85; refine (alive_any _ _ (hA _ _).c0).mono ?_; rintro e w' ⟨rfl, rfl⟩))
  refine bodyPost_ret (v := .tuple #[.agg #[.int .i64 0, .int .i64 0], .int .i64 2]) (by simp [results, Tryz.results144, go_sem]) rfl ⟨rfl, ?_⟩
  exact ((Fr.refl _ _).alloc _).alloc _

set_option maxHeartbeats 400000 in
theorem Arr_most {w : World} {b : Nat} {lim used : Int} {sv : Value} {rk rn : Int} (h : HB w b lim used sv rk rn) (n : Int) (hn : 10000000 ≤ n) :
    Calls Tryz.prog 144 #[.pointer (some ⟨b, 0, none⟩), .agg #[.int .i64 0, .int .i64 n]] w fun e w' => e = .returned (.tuple #[.agg #[.int .i64 0, .int .i64 0], .int .i64 5]) ∧ Fr [] w w' := by
  have hA : ∀ o o', HB ((w.alloc o).alloc o') b lim used sv rk rn := fun o o' => h.fr (S := []) (((Fr.refl _ _).alloc o).alloc o') (by simp)
  go_enter Tryz.func144, Tryz.ntmps144
  go_wp2_with (first | (go_at_call 85; refine (alive_any _ _ (hA _ _).c0).mono ?_; rintro e w' ⟨rfl, rfl⟩))
  refine bodyPost_ret (v := .tuple #[.agg #[.int .i64 0, .int .i64 0], .int .i64 5]) (by simp [results, Tryz.results144, go_sem]) rfl ⟨rfl, ?_⟩
  exact ((Fr.refl _ _).alloc _).alloc _

set_option maxHeartbeats 400000 in
theorem Arr_full {w : World} {b : Nat} {lim used : Int} {sv : Value} {rk rn : Int} (h : HB w b lim used sv rk rn) (n : Int) (h0 : 0 ≤ n) (hn : n < 10000000) (hl : 0 ≤ lim) (hu : 0 ≤ used) (hul : used ≤ lim) (hlm : lim ≤ 10000000) (hc : lim - used < 1 + n) :
    Calls Tryz.prog 144 #[.pointer (some ⟨b, 0, none⟩), .agg #[.int .i64 0, .int .i64 n]] w fun e w' => e = .returned (.tuple #[.agg #[.int .i64 0, .int .i64 0], .int .i64 5]) ∧ Fr [] w w' := by
  have hA : ∀ o o', HB ((w.alloc o).alloc o') b lim used sv rk rn := fun o o' => h.fr (S := []) (((Fr.refl _ _).alloc o).alloc o') (by simp)
  go_enter Tryz.func144, Tryz.ntmps144
  go_wp2_with (first | (go_at_call 85; refine (alive_any _ _ (hA _ _).c0).mono ?_; rintro e w' ⟨rfl, rfl⟩) | (go_at_call 161; refine (charge_no _ (hA _ _) _ (by omega) hl hu hul hlm (by omega)).mono ?_; rintro e w' ⟨rfl, k, rfl⟩))
  refine bodyPost_ret (v := .tuple #[.agg #[.int .i64 0, .int .i64 0], .int .i64 5]) (by simp [results, Tryz.results144, go_sem]) rfl ⟨rfl, ?_⟩
  exact Fr.setCell (Fr.setCell (Fr.drewN (((Fr.refl _ _).alloc _).alloc _) _) (.inr (by simp)) _) (.inr (by simp)) _

theorem Arr_no {w : World} {b : Nat} {lim used : Int} {sv : Value} {rk rn : Int} (h : HB w b lim used sv rk rn) (k n : Int) (hl : 0 ≤ lim) (hu : 0 ≤ used) (hul : used ≤ lim) (hlm : lim ≤ 10000000) (hc : arrMake lim used k n ≠ 0) :
    Calls Tryz.prog 144 #[.pointer (some ⟨b, 0, none⟩), .agg #[.int .i64 k, .int .i64 n]] w fun e w' => e = .returned (.tuple #[.agg #[.int .i64 0, .int .i64 0], .int .i64 (arrMake lim used k n)]) ∧ Fr [] w w' := by
  unfold arrMake at hc ⊢
  by_cases h1 : k = 0
  · subst h1
    rw [if_pos rfl] at hc ⊢
    by_cases h2 : n < 0
    · rw [if_pos h2]
      exact Arr_neg h n h2
    · rw [if_neg h2] at hc ⊢
      split at hc
      · rename_i h3
        rw [if_pos h3]
        by_cases h4 : 10000000 ≤ n
        · exact Arr_most h n h4
        · exact Arr_full h n (by omega) (by omega) hl hu hul hlm h3
      · omega
  · rw [if_neg h1]
    exact Arr_kind h k n h1

theorem make_int (n : Int) (h0 : 0 ≤ n) (hn : n ≤ 10000000) (w : World) :
    (Instr.makeSlice 55 (.int .i64 n) (.int .i64 n)).run Tryz.prog w = .ok (.slice (some ⟨w.heap.size, 0, none⟩) n.toNat n.toNat) (w.alloc (.cells (flat (List.replicate n.toNat ((0 : Int), (0 : Int)))).toArray 33)) := by
  obtain ⟨m, rfl⟩ := Int.eq_ofNat_of_zero_le h0
  rw [Int.toNat_natCast]
  exact make_run m (by omega) w

set_option maxHeartbeats 600000 in
theorem Arr_ok {w : World} {B b : Nat} {lim used : Int} {sv : Value} {rk rn : Int} {T : List Thing} (h : Rep w B b lim used sv rk rn T) (n : Int) (h0 : 0 ≤ n) (hl : 0 ≤ lim) (hu : 0 ≤ used) (hul : used ≤ lim) (hlm : lim ≤ 10000000) (hc : 1 + n ≤ lim - used) (hT : T.length ≤ 1000000000000) :
    Calls Tryz.prog 144 #[.pointer (some ⟨b, 0, none⟩), .agg #[.int .i64 0, .int .i64 n]] w fun e w' => e = .returned (.tuple #[.agg #[.int .i64 2, .int .i64 T.length], .int .i64 0]) ∧
      ∃ sv' t, Rep w' B b lim (used + (1 + n)) sv' rk rn (T ++ [t]) ∧ t.sort = -1 ∧ t.cells = List.replicate n.toNat ((0 : Int), (0 : Int)) ∧ w.heap.size ≤ t.rb ∧ Fr (b :: sv.ownBlock.toList) w w' ∧ (∀ k, sv'.ownBlock = some k → sv.ownBlock = some k ∨ w.heap.size ≤ k) := by
  have hlt := h.hb.lt
  have hA : ∀ o o', HB ((w.alloc o).alloc o') b lim used sv rk rn := fun o o' => h.hb.fr (S := []) (((Fr.refl _ _).alloc o).alloc o') (by simp)
  have hmk := make_int n h0 (by omega)
  have hn0 : n < 10000000 := by omega
  go_enter Tryz.func144, Tryz.ntmps144
  go_wp2_with (first | (go_at_call 85; refine (alive_any _ _ (hA _ _).c0).mono ?_; rintro e w' ⟨rfl, rfl⟩) | (go_at_call 161; refine (charge_yes _ (hA _ _) _ (by omega) hl hu hul hlm (by omega)).mono ?_; rintro e w' ⟨rfl, k, rfl⟩) | (go_at_call 163; refine (laid_arr _ (-1) (by omega) _ _ _).mono ?_; rintro e w' ⟨rfl, rfl⟩))
  have hR1 : Rep (w.alloc (.cells #[.int .i64 0, .int .i64 n] 33)) B b lim used sv rk rn T := h.frame (S := []) ((Fr.refl _ _).alloc _) (by simp)
  obtain ⟨q1, q2, q3, q4, q5, q6⟩ := mk_world hR1 (w.heap.size + 1) (by simp) (.cells #[.int .i64 0, .int .i64 0] 33) k (used + (1 + n)) ⟨w.heap.size + 1 + 1 + 1, w.heap.size + 1 + 1, -1, List.replicate n.toNat ((0 : Int), (0 : Int))⟩ rfl rfl (.cells #[.slice (some ⟨w.heap.size + 1 + 1, 0, none⟩) n.toNat n.toNat] 167) (by simp [Thing.body, Thing.sl]) (flat (List.replicate n.toNat ((0 : Int), (0 : Int)))).toArray rfl
  refine (add_rep q1 _ q2 q3 q4 hT 212 (w.heap.size + 1 + 1 + 1) (by simp [Thing.val])).mono ?_
  rintro e w' ⟨rfl, sv', p1, p2, p3⟩
  have hsz : w.heap.size + 1 < ((((((w.alloc (Obj.cells #[Value.int IntKind.i64 0, Value.int IntKind.i64 n] 33)).alloc (Obj.cells #[Value.int IntKind.i64 0, Value.int IntKind.i64 0] 33)).drewN k).setCell { block := b, off := 2 } (Value.int IntKind.i64 (used + (1 + n)))).alloc (Obj.cells (flat (List.replicate n.toNat ((0 : Int), (0 : Int)))).toArray 33)).alloc (Obj.cells #[Value.slice (some { block := w.heap.size + 1 + 1, off := 0 }) n.toNat n.toNat] 167)).heap.size := by simp [World.setCell, World.drewN]
  have hL : w'.heap[w.heap.size + 1]? = some (.cells #[.int .i64 0, .int .i64 0] 33) := by
    rw [p2.block _ hsz ?_]
    · exact q6
    · simp only [List.mem_cons, Option.mem_toList, not_or]
      exact ⟨by omega, fun e => by have := h.row.lt _ e; omega⟩
  have hFr : Fr (b :: sv.ownBlock.toList) w w' := (((Fr.refl _ _).alloc _).trans q5).trans p2
  have hl0 : w'.cell? ⟨w.heap.size + 1, 0, none⟩ = some (.int .i64 0) := by simp [World.cell?, hL]
  have hl1 : w'.cell? ⟨w.heap.size + 1, 1, none⟩ = some (.int .i64 0) := by simp [World.cell?, hL]
  have hlf : ∀ i, w'.frozen? ⟨w.heap.size + 1, i, none⟩ = false := by intro i; simp [World.frozen?, hL]
  clear q1 q2 q3 q4 q5 q6 hsz hmk hA hR1
  go_wp2
  refine bodyPost_ret (v := .tuple #[.agg #[.int .i64 2, .int .i64 T.length], .int .i64 0]) (by simp [results, Tryz.results144, go_sem, hl0, hl1]) rfl ⟨rfl, sv', _, p1.boxes (S := [w.heap.size + 1]) (Fr.setCell (Fr.setCell (Fr.refl _ _) (.inl (by simp)) _) (.inl (by simp)) _) ?_, rfl, rfl, by simp; omega, ?_, ?_⟩
  · intro j hj
    simp at hj
    subst hj
    refine .inl ⟨_, _, hL, ?_⟩
    rw [List.map_append, List.mem_append, not_or]
    refine ⟨fun hm => ?_, by simp⟩
    have := h.lt (w.heap.size + 1) (by unfold foot; simp only [List.mem_cons, List.mem_append]; exact .inr (.inr hm))
    omega
  · exact Fr.setCell (Fr.setCell hFr (.inr (by simp)) _) (.inr (by simp)) _
  · intro j hj
    rcases p3 j hj with e | e
    · exact .inl e
    · right
      simp [World.setCell, World.drewN] at e
      omega
end Go.Proofs.YtkjkpkmmojchiaaGreatDoor
