/-
  The thing that a value names on a heap that New made: its sort, its cells, or the trap; no condition on the value.
-/
import Derived.Test.YtkjkpkmmojchiaaGreatDoorHeapC
namespace Go.Proofs.YtkjkpkmmojchiaaGreatDoor
open Go.RowKit

set_option maxHeartbeats 400000 in
theorem view_any (tb rb n : Nat) (w : World) (h : w.cell? ⟨tb, 0, none⟩ = some (.slice (some ⟨rb, 0, none⟩) n n)) :
    Calls Tryz.prog 195 #[.pointer (some ⟨tb, 0, none⟩)] w fun e w' => e = .returned (.slice (some ⟨rb, 0, none⟩) n n) ∧ w' = w := by
  go_enter Tryz.func195, Tryz.ntmps195
  go_wp2
  go_ret
  exact ⟨rfl, rfl⟩

theorem ta_rec (a : Addr) (w : World) : (Instr.typeAssert (.iface 165 (.pointer (some a))) 143 165 true).run Tryz.prog w = .ok (.tuple #[.pointer (some a), .bool true]) w := by kernel_rfl
theorem ta_arr (a : Addr) (w : World) : (Instr.typeAssert (.iface 212 (.pointer (some a))) 143 165 true).run Tryz.prog w = .ok (.tuple #[.pointer none, .bool false]) w := by kernel_rfl

set_option maxHeartbeats 400000 in
theorem sort_rec (tb : Nat) (r : Int) (w : World) (h : w.cell? ⟨tb, 1, none⟩ = some (.int .i64 r)) :
    Calls Tryz.prog 83 #[.iface 165 (.pointer (some ⟨tb, 0, none⟩))] w fun e w' => e = .returned (.int .i64 r) ∧ w' = w := by
  have t1 := ta_rec
  have t2 := ta_arr
  go_enter Tryz.func83, Tryz.ntmps83
  go_wp2
  go_ret
  exact ⟨rfl, rfl⟩

set_option maxHeartbeats 400000 in
theorem sort_arr (tb : Nat) (w : World) :
    Calls Tryz.prog 83 #[.iface 212 (.pointer (some ⟨tb, 0, none⟩))] w fun e w' => e = .returned (.int .i64 (-1)) ∧ w' = w := by
  have t1 := ta_rec
  have t2 := ta_arr
  go_enter Tryz.func83, Tryz.ntmps83
  go_wp2
  go_ret
  exact ⟨rfl, rfl⟩

/-- A thing that a value names. -/
theorem Rep.cell {w : World} {B b : Nat} {lim used : Int} {sv : Value} {rk rn : Int} {T : List Thing} (h : Rep w B b lim used sv rk rn T) {i : Nat} {t : Thing} (ht : T[i]? = some t) :
    ∃ g c, sv = .slice (some ⟨g, 0, none⟩) T.length c ∧ w.cell? ⟨g, i, none⟩ = some t.val := by
  have hi : i < T.length := (List.getElem?_eq_some_iff.1 ht).1
  rcases h.row.2 with ⟨_, e⟩ | ⟨g, cap, cur, e, _⟩
  · omega
  · refine ⟨g, cap, e, ?_⟩
    have hc := h.row.cells (g := g) (by rw [e]; rfl) i t.val (by rw [List.getElem?_map, ht]; rfl)
    have hadd : (⟨g, 0, none⟩ : Addr).add i = ⟨g, i, none⟩ := by unfold Addr.add; split <;> simp_all
    rw [hadd] at hc
    exact hc

/-- How long the things are. -/
theorem Rep.slice {w : World} {B b : Nat} {lim used : Int} {sv : Value} {rk rn : Int} {T : List Thing} (h : Rep w B b lim used sv rk rn T) : ∃ a c, sv = .slice a T.length c := by
  rcases h.row.2 with ⟨e1, e2⟩ | ⟨g, cap, cur, e, _⟩
  · exact ⟨none, 0, by rw [e1, e2]⟩
  · exact ⟨_, cap, e⟩

set_option maxHeartbeats 400000 in
theorem find_kind {w : World} {b : Nat} {lim used : Int} {sv : Value} {rk rn : Int} (h : HB w b lim used sv rk rn) (k n : Int) (h1 : (k == 1) = false) (h2 : (k == 2) = false) :
    Calls Tryz.prog 82 #[.pointer (some ⟨b, 0, none⟩), .agg #[.int .i64 k, .int .i64 n]] w fun e w' => e = .returned (.tuple #[.nilIface, .int .i64 6]) ∧ Fr [] w w' := by
  have hA : ∀ o, HB (w.alloc o) b lim used sv rk rn := fun o => h.fr (S := []) ((Fr.refl _ _).alloc o) (by simp)
  have h3 : (k != 2) = true := by simp [bne, h2]
  go_enter Tryz.func82, Tryz.ntmps82
  go_wp2_with (first | (go_at_call 85; refine (alive_any _ _ (hA _).c0).mono ?_; rintro e w' ⟨rfl, rfl⟩))
  go_quiet (fail)
  go_wp2
  go_ret2
  exact ⟨rfl, Fr.drewN ((Fr.refl _ _).alloc _) _⟩

set_option maxHeartbeats 400000 in
theorem find_neg {w : World} {b : Nat} {lim used : Int} {sv : Value} {rk rn : Int} (h : HB w b lim used sv rk rn) (n : Int) (h1 : n < 0) :
    Calls Tryz.prog 82 #[.pointer (some ⟨b, 0, none⟩), .agg #[.int .i64 2, .int .i64 n]] w fun e w' => e = .returned (.tuple #[.nilIface, .int .i64 6]) ∧ Fr [] w w' := by
  have hA : ∀ o, HB (w.alloc o) b lim used sv rk rn := fun o => h.fr (S := []) ((Fr.refl _ _).alloc o) (by simp)
  have hd : decide (n < 0) = true := by simpa using h1
  go_enter Tryz.func82, Tryz.ntmps82
  go_wp2_with (first | (go_at_call 85; refine (alive_any _ _ (hA _).c0).mono ?_; rintro e w' ⟨rfl, rfl⟩))
  go_quiet (fail)
  go_wp2
  go_ret2
  exact ⟨rfl, Fr.drewN ((Fr.refl _ _).alloc _) _⟩

set_option maxHeartbeats 400000 in
theorem find_big {w : World} {B b : Nat} {lim used : Int} {sv : Value} {rk rn : Int} {T : List Thing} (R : Rep w B b lim used sv rk rn T) (n : Int) (h0 : 0 ≤ n) (h1 : (T.length : Int) ≤ n) :
    Calls Tryz.prog 82 #[.pointer (some ⟨b, 0, none⟩), .agg #[.int .i64 2, .int .i64 n]] w fun e w' => e = .returned (.tuple #[.nilIface, .int .i64 6]) ∧ Fr [] w w' := by
  obtain ⟨a, c, rfl⟩ := R.slice
  have hA : ∀ o, HB (w.alloc o) b lim used (.slice a T.length c) rk rn := fun o => R.hb.fr (S := []) ((Fr.refl _ _).alloc o) (by simp)
  have c3 := fun o => (hA o).c3
  have hd : decide (n < 0) = false := by simpa using h0
  have hd2 : decide ((T.length : Int) ≤ n) = true := by simpa using h1
  have hlt := R.hb.lt
  go_enter Tryz.func82, Tryz.ntmps82
  go_wp2_with (first | (go_at_call 85; refine (alive_any _ _ (hA _).c0).mono ?_; rintro e w' ⟨rfl, rfl⟩))
  go_quiet (fail)
  go_wp2
  go_ret2
  exact ⟨rfl, Fr.drewN ((Fr.refl _ _).alloc _) _⟩

set_option maxHeartbeats 400000 in
theorem find_ok {w : World} {B b : Nat} {lim used : Int} {sv : Value} {rk rn : Int} {T : List Thing} (R : Rep w B b lim used sv rk rn T) (i : Nat) (t : Thing) (ht : T[i]? = some t) :
    Calls Tryz.prog 82 #[.pointer (some ⟨b, 0, none⟩), .agg #[.int .i64 2, .int .i64 (i : Int)]] w fun e w' => e = .returned (.tuple #[t.val, .int .i64 0]) ∧ Fr [] w w' := by
  obtain ⟨g, c, rfl, hcell⟩ := R.cell ht
  have hi : i < T.length := (List.getElem?_eq_some_iff.1 ht).1
  have hlt := R.hb.lt
  have hA : ∀ o, HB (w.alloc o) b lim used (.slice (some ⟨g, 0, none⟩) T.length c) rk rn := fun o => R.hb.fr (S := []) ((Fr.refl _ _).alloc o) (by simp)
  have c3 := fun o => (hA o).c3
  have hgl : g < w.heap.size := (R.row.lt g rfl).2
  have hd : decide ((i : Int) < 0) = false := by simp
  have hd2 : decide ((T.length : Int) ≤ (i : Int)) = false := by simp; omega
  have c4 : ∀ o, (w.alloc o).cell? ⟨g, i, none⟩ = some t.val := fun o => by rw [World.cell?_of_block (w := w) (Below.heap_alloc w o g hgl)]; exact hcell
  unfold Thing.val at c4 ⊢
  generalize (if t.sort < 0 then (212 : Nat) else 165) = ty at c4 ⊢
  generalize t.tb = tb at c4 ⊢
  go_enter Tryz.func82, Tryz.ntmps82
  go_wp2_with (first | (go_at_call 85; refine (alive_any _ _ (hA _).c0).mono ?_; rintro e w' ⟨rfl, rfl⟩))
  go_quiet (fail)
  go_wp2
  go_quiet (fail)
  go_wp2
  go_ret2
  exact ⟨rfl, Fr.drewN (Fr.drewN ((Fr.refl _ _).alloc _) _) _⟩
end Go.Proofs.YtkjkpkmmojchiaaGreatDoor
