/-
  The chapter's example comes out true; no condition.
-/
import Derived.Test.YtndjoklinccfjaaHeapC
namespace Go.Proofs.Ytndjoklinccfjaa
open Go.RowKit

theorem rec_int {w : World} {B b : Nat} {lim used : Int} {sv : Value} {rk rn : Int} {T : List Thing} (h : Rep w B b lim used sv rk rn T) (r f : Int) (hr : 0 ≤ r) (hf : 0 ≤ f) (hf2 : f ≤ 1000) (hl : 0 ≤ lim) (hu : 0 ≤ used) (hul : used ≤ lim) (hlm : lim ≤ 10000000) (hc : 1 + f ≤ lim - used) (hT : T.length ≤ 1000000000000) :
    Calls Try.prog 16 #[.pointer (some ⟨b, 0, none⟩), .int .i64 r, .int .i64 f] w fun e w' => e = .returned (.tuple #[.agg #[.int .i64 2, .int .i64 T.length], .int .i64 0]) ∧
      ∃ sv' t, Rep w' B b lim (used + (1 + f)) sv' rk rn (T ++ [t]) ∧ t.sort = r ∧ t.cells = List.replicate f.toNat ((0 : Int), (0 : Int)) ∧ w.heap.size ≤ t.rb ∧ Fr (b :: sv.ownBlock.toList) w w' ∧ (∀ k, sv'.ownBlock = some k → sv.ownBlock = some k ∨ w.heap.size ≤ k) := by
  obtain ⟨n, rfl⟩ := Int.eq_ofNat_of_zero_le hf
  rw [Int.toNat_natCast]
  exact rec_yes h r n hr hf2 hl hu hul hlm hc hT

theorem cap0_3 : cap0 3 = 3 := by decide

set_option maxHeartbeats 400000 in
theorem awake_any (w : World) : Calls Try.prog 7 #[] w fun e w' => e = .returned (.bool true) ∧ Fr [] w w' := by
  go_enter Try.func7, Try.ntmps7
  go_wp2_with fail
  refine (new_any 3 _).mono ?_
  rintro e w1 ⟨rfl, rfl⟩
  have hR := Rep.new w 3
  rw [cap0_3] at hR
  rw [cap0_3]
  have f1 : Fr [] w (w.alloc (Obj.cells #[Value.bool true, Value.int IntKind.i64 3, Value.int IntKind.i64 0, Value.slice none 0 0, Value.int IntKind.i64 0, Value.int IntKind.i64 0] 61)) := (Fr.refl _ _).alloc _
  have s1 : w.heap.size < (w.alloc (Obj.cells #[Value.bool true, Value.int IntKind.i64 3, Value.int IntKind.i64 0, Value.slice none 0 0, Value.int IntKind.i64 0, Value.int IntKind.i64 0] 61)).heap.size := by simp
  generalize w.alloc (Obj.cells #[Value.bool true, Value.int IntKind.i64 3, Value.int IntKind.i64 0, Value.slice none 0 0, Value.int IntKind.i64 0, Value.int IntKind.i64 0] 61) = w1 at *
  generalize hbb : w.heap.size = b at *
  have HB1 : Hid (w.heap.size = b) := hbb
  clear hbb
  go_wp2_with fail
  refine (rec_int hR 0 2 (by omega) (by omega) (by omega) (by omega) (by omega) (by omega) (by omega) (by omega) (by simp)).mono ?_
  rintro e w2 ⟨rfl, sv2, t2, R2, -, -, -, f2, k2⟩
  go_wp2_with fail
  have H3 : ∀ o, HB (w2.alloc o) b 3 (0 + (1 + 2)) sv2 0 0 := fun o => R2.hb.fr (S := []) ((Fr.refl _ _).alloc o) (by simp)
  refine (rec_no (H3 _) 0 0 (by omega) (by omega) (by omega) (by omega) (by omega) (by omega) (by omega) (by omega)).mono ?_
  rintro e w3 ⟨rfl, f3⟩
  have H4 : ∀ o, HB (w3.alloc o) b 3 (0 + (1 + 2)) sv2 0 0 := fun o => (H3 _).fr (f3.alloc o) (by simp)
  have L3 : w3.heap[w2.heap.size]? = some (.cells #[.int .i64 2, .int .i64 0] 30) := by
    rw [f3.block _ (by simp) (by simp)]
    exact heap_alloc_new _ _
  have z3 : w2.heap.size < w3.heap.size := by have := f3.size; simp at this; omega
  go_wp2_with fail
  refine (Field_null (H4 _) 0 0 0).mono ?_
  rintro e w4 ⟨rfl, f4⟩
  have L4 : w4.heap[w2.heap.size]? = some (.cells #[.int .i64 2, .int .i64 0] 30) := by
    rw [f4.block _ (by simp; omega) (by simp), Below.heap_alloc _ _ _ z3]
    exact L3
  have z4 : w2.heap.size < w4.heap.size := by have := f4.size; simp at this; omega
  have H5 : ∀ o, HB (w4.alloc o) b 3 (0 + (1 + 2)) sv2 0 0 := fun o => (H4 _).fr (f4.alloc o) (by simp)
  have l0 : ∀ o, (w4.alloc o).cell? ⟨w2.heap.size, 0, none⟩ = some (.int .i64 2) := by
    intro o
    simp [World.cell?, Below.heap_alloc _ _ _ z4, L4]
  have l1 : ∀ o, (w4.alloc o).cell? ⟨w2.heap.size, 1, none⟩ = some (.int .i64 0) := by
    intro o
    simp [World.cell?, Below.heap_alloc _ _ _ z4, L4]
  have ff : Fr [] w (w4.alloc (.cells #[.int .i64 0, .int .i64 0] 30)) := by
    have a1 : Fr [] w w2 := (f1.sub (T := [b]) (by simp)).trans (f2.sub (by simp [Value.ownBlock])) |>.sub (by intro k hk; simp at hk; exact .inr (by rw [HB1.out]; omega))
    exact (((a1.alloc _).trans f3).alloc _ |>.trans f4).alloc _
  clear H3 H4 hR R2 k2 f1 f2 f3 f4 L3 L4
  go_wp2_with (first | (go_at_call 12; refine (used_any _ (H5 _)).mono ?_; rintro e w' ⟨rfl, rfl⟩))
  go_ret
  exact ⟨rfl, ff⟩
end Go.Proofs.Ytndjoklinccfjaa
