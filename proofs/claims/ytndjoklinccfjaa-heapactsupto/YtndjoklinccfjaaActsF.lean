/-
  act at Charge: both heaps answer alike; no condition.
-/
import Derived.Test.YtndjoklinccfjaaActsE
namespace Go.Proofs.Ytndjoklinccfjaa
open Go.RowKit

set_option maxRecDepth 100000 in
set_option maxHeartbeats 1000000 in
theorem act_charge_no {w : World} {B b r : Nat} {lim used rk rn : Int} {sv sr : Value} {T : List Thing} {U : List RT} (J : JI w B b r lim used rk rn sv sr T U) (vk vn wk wn xk xn rec n : Int) (cs : Value) (h0 : 0 ≤ n) (hc : lim - used < n) :
    Calls Try.prog 11 #[.pointer (some ⟨b, 0, none⟩), .pointer (some ⟨r, 0, none⟩), actVal 3 vk vn wk wn xk xn rec n cs] w fun e w' => e = .returned (.bool true) ∧ JI w' B b r lim used rk rn sv sr T U ∧ Below B w w' := by
  unfold actVal
  go_enter Try.func11, Try.ntmps11
  go_wp2_with fail
  have A0 : ABox (w.alloc (.cells #[.int .i64 3, .int .i64 vk, .int .i64 vn, .int .i64 wk, .int .i64 wn, .int .i64 xk, .int .i64 xn, .int .i64 rec, .int .i64 n, cs] 33)) w.heap.size 3 vk vn wk wn xk xn rec n cs := heap_alloc_new w _
  have f0 : Fr [] w (w.alloc (.cells #[.int .i64 3, .int .i64 vk, .int .i64 vn, .int .i64 wk, .int .i64 wn, .int .i64 xk, .int .i64 xn, .int .i64 rec, .int .i64 n, cs] 33)) := (Fr.refl _ _).alloc _
  have hBw : B ≤ w.heap.size := by have := J.R.base; have := J.R.hb.lt; omega
  generalize w.alloc (.cells #[.int .i64 3, .int .i64 vk, .int .i64 vn, .int .i64 wk, .int .i64 wn, .int .i64 xk, .int .i64 xn, .int .i64 rec, .int .i64 n, cs] 33) = w0 at *
  generalize w.heap.size = k0 at *
  have J0 := J.frame f0 (by simp)
  have c8 : ∀ w', Fr [] w0 w' → w'.cell? ⟨k0, 8, none⟩ = some (.int .i64 n) := fun w' f => (A0.fr f (by simp)).cells.2.2.2.2.2.2.2.2.1
  go_region_held3 (fun w' => Fr [] w0 w')
    (with_reducible (first | assumption | exact Fr.drewN (Fr.refl _ _) _ | exact Fr.drew (Fr.refl _ _)))
    (first
      | (go_at_call 28; refine (charge_no _ ((J0.frame (by assumption) (by simp)).R.hb) n h0 J.hl J.hu J.hul J.hlm hc).mono ?_; rintro e w1 ⟨rfl, q1, rfl⟩)
      | (go_at_call 29; refine (rcharge_no _ ((J0.frame (by assumption) (by simp)).Q.hb) n h0 J.hl J.hu J.hul J.hlm hc).mono ?_; rintro e w2 ⟨rfl, q2, rfl⟩))
  all_goals (rename_i hH; go_wp2; go_ret; exact ⟨rfl, J.frame (f0.trans hH) (by simp), (f0.trans hH).below (by have := J.R.base; have := J.R.hb.lt; omega) (by simp)⟩)
set_option maxRecDepth 100000 in
set_option maxHeartbeats 1000000 in
theorem act_charge_neg {w : World} {B b r : Nat} {lim used rk rn : Int} {sv sr : Value} {T : List Thing} {U : List RT} (J : JI w B b r lim used rk rn sv sr T U) (vk vn wk wn xk xn rec n : Int) (cs : Value) (h0 : n < 0) :
    Calls Try.prog 11 #[.pointer (some ⟨b, 0, none⟩), .pointer (some ⟨r, 0, none⟩), actVal 3 vk vn wk wn xk xn rec n cs] w fun e w' => e = .returned (.bool true) ∧ JI w' B b r lim used rk rn sv sr T U ∧ Below B w w' := by
  unfold actVal
  go_enter Try.func11, Try.ntmps11
  go_wp2_with fail
  have A0 : ABox (w.alloc (.cells #[.int .i64 3, .int .i64 vk, .int .i64 vn, .int .i64 wk, .int .i64 wn, .int .i64 xk, .int .i64 xn, .int .i64 rec, .int .i64 n, cs] 33)) w.heap.size 3 vk vn wk wn xk xn rec n cs := heap_alloc_new w _
  have f0 : Fr [] w (w.alloc (.cells #[.int .i64 3, .int .i64 vk, .int .i64 vn, .int .i64 wk, .int .i64 wn, .int .i64 xk, .int .i64 xn, .int .i64 rec, .int .i64 n, cs] 33)) := (Fr.refl _ _).alloc _
  have hBw : B ≤ w.heap.size := by have := J.R.base; have := J.R.hb.lt; omega
  generalize w.alloc (.cells #[.int .i64 3, .int .i64 vk, .int .i64 vn, .int .i64 wk, .int .i64 wn, .int .i64 xk, .int .i64 xn, .int .i64 rec, .int .i64 n, cs] 33) = w0 at *
  generalize w.heap.size = k0 at *
  have J0 := J.frame f0 (by simp)
  have c8 : ∀ w', Fr [] w0 w' → w'.cell? ⟨k0, 8, none⟩ = some (.int .i64 n) := fun w' f => (A0.fr f (by simp)).cells.2.2.2.2.2.2.2.2.1
  go_region_held3 (fun w' => Fr [] w0 w')
    (with_reducible (first | assumption | exact Fr.drewN (Fr.refl _ _) _ | exact Fr.drew (Fr.refl _ _)))
    (first
      | (go_at_call 28; refine (charge_neg _ ((J0.frame (by assumption) (by simp)).R.hb) n h0).mono ?_; rintro e w1 ⟨rfl, rfl⟩)
      | (go_at_call 29; refine (rcharge_neg _ n h0).mono ?_; rintro e w2 ⟨rfl, rfl⟩))
  all_goals (rename_i hH; go_wp2; go_ret; exact ⟨rfl, J.frame (f0.trans hH) (by simp), (f0.trans hH).below (by have := J.R.base; have := J.R.hb.lt; omega) (by simp)⟩)
set_option maxRecDepth 100000 in
set_option maxHeartbeats 1000000 in
theorem act_charge_yes {w : World} {B b r : Nat} {lim used rk rn : Int} {sv sr : Value} {T : List Thing} {U : List RT} (J : JI w B b r lim used rk rn sv sr T U) (vk vn wk wn xk xn rec n : Int) (cs : Value) (h0 : 0 ≤ n) (hc : n ≤ lim - used) :
    Calls Try.prog 11 #[.pointer (some ⟨b, 0, none⟩), .pointer (some ⟨r, 0, none⟩), actVal 3 vk vn wk wn xk xn rec n cs] w fun e w' => e = .returned (.bool true) ∧ JI w' B b r lim (used + n) rk rn sv sr T U ∧ Below B w w' := by
  unfold actVal
  go_enter Try.func11, Try.ntmps11
  go_wp2_with fail
  have A0 : ABox (w.alloc (.cells #[.int .i64 3, .int .i64 vk, .int .i64 vn, .int .i64 wk, .int .i64 wn, .int .i64 xk, .int .i64 xn, .int .i64 rec, .int .i64 n, cs] 33)) w.heap.size 3 vk vn wk wn xk xn rec n cs := heap_alloc_new w _
  have f0 : Fr [] w (w.alloc (.cells #[.int .i64 3, .int .i64 vk, .int .i64 vn, .int .i64 wk, .int .i64 wn, .int .i64 xk, .int .i64 xn, .int .i64 rec, .int .i64 n, cs] 33)) := (Fr.refl _ _).alloc _
  have hBw : B ≤ w.heap.size := by have := J.R.base; have := J.R.hb.lt; omega
  generalize w.alloc (.cells #[.int .i64 3, .int .i64 vk, .int .i64 vn, .int .i64 wk, .int .i64 wn, .int .i64 xk, .int .i64 xn, .int .i64 rec, .int .i64 n, cs] 33) = w0 at *
  generalize w.heap.size = k0 at *
  have J0 := J.frame f0 (by simp)
  have c8 : ∀ w', ABox w' k0 3 vk vn wk wn xk xn rec n cs → w'.cell? ⟨k0, 8, none⟩ = some (.int .i64 n) := fun w' f => f.cells.2.2.2.2.2.2.2.2.1
  have hBw0 : B ≤ w0.heap.size := by have := J0.R.base; have := J0.R.hb.lt; omega
  have b0 : Below B w w0 := f0.below (by have := J.R.base; have := J.R.hb.lt; omega) (by simp)
  go_region_held3 (fun w' => ABox w' k0 3 vk vn wk wn xk xn rec n cs)
    (with_reducible (first | assumption | exact A0.fr (Fr.drew (Fr.refl [] _)) (by simp)))
    (first
      | (go_at_call 28; refine (charge_yes _ ((J0.frame (Fr.drew (Fr.refl [] _)) (by simp)).R.hb) n h0 J.hl J.hu J.hul J.hlm hc).mono ?_; rintro e w1 ⟨rfl, q1, hw1⟩; have f1 : Fr [b] w0 w1 := (by rw [hw1]; exact Fr.setCell (Fr.drewN (Fr.drew (Fr.refl _ _)) _) (.inl (by simp)) _); have R1 : Rep w1 B b lim (used + n) sv rk rn T := (by rw [hw1]; exact (J0.R.frame (Fr.drewN (Fr.drew (Fr.refl [] _)) _) (by simp)).setUsed _); have Q1 := J0.Q.fr f1 (fun k hk hm => past_code J0.R J0.Q k hk (by simp at hm; simp [hm])); have A1 := A0.fr f1 (by have := A0.out J0.R; simp at this ⊢; exact this.1); clear hw1)
      | (go_at_call 29; refine (rcharge_yes _ Q1.hb n h0 J.hl J.hu J.hul J.hlm hc).mono ?_; rintro e w2 ⟨rfl, q2, hw2⟩; have f2 : Fr [r] w1 w2 := (by rw [hw2]; exact Fr.setCell (Fr.drewN (Fr.refl _ _) _) (.inl (by simp)) _); have Q2 : RRep w2 B r lim (used + n) sr rk rn U := (by rw [hw2]; exact (Q1.frame (Fr.drewN (Fr.refl [] _) _) (by simp)).setUsed _); have A2 := A1.fr f2 (by have := Q1.hb.ne_of A1 (by decide); simpa using this); clear hw2))
  all_goals
    have R2 := past_ref R1 Q1 f2 (fun k hk => .inl (by simp at hk; simp [hk]))
    have b2 : Below B w w2 := b0.trans ((f1.below hBw0 (by simp; exact J0.R.base)).trans (f2.below (by have := f1.size; omega) (by simp; exact Q1.base)))
    go_wp2
    go_ret
    exact ⟨rfl, ⟨R2, Q2, J.same, J.apart, J.sorts, J.hl, by have := J.hu; omega, by omega, J.hlm⟩, b2⟩

end Go.Proofs.Ytndjoklinccfjaa
