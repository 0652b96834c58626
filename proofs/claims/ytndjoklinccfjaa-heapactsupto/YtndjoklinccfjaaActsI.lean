/-
  act at Lay: both heaps lay the same thing; the list that is handed in lies below both heaps.
-/
import Derived.Test.YtndjoklinccfjaaActsH
namespace Go.Proofs.Ytndjoklinccfjaa
open Go.RowKit

/-- The sort under which a thing is laid. -/
def laySort (r : Int) : Int := if r < 0 then -1 else r

/-- A list of values that came in, below B. -/
structure Src (B : Nat) (w : World) (a : Option Addr) (n c : Nat) (xs : List (Int × Int)) : Prop where
  len : xs.length = n
  none : a = none → n = 0 ∧ c = 0
  low : ∀ ad, a = some ad → 0 < n → ad.block < B
  lies : Lies w a xs

theorem Src.fr {B : Nat} {S : List Nat} {w w' : World} {a : Option Addr} {n c : Nat} {xs : List (Int × Int)} (h : Src B w a n c xs) (f : Fr S w w') (hS : ∀ k, k ∈ S → B ≤ k) : Src B w' a n c xs := by
  refine ⟨h.len, h.none, h.low, fun hp => ?_⟩
  refine h.lies.fr (S := S) f (fun ad e hm => ?_) hp
  have h1 := h.low ad e (by have := h.len; omega)
  have h2 := hS _ hm
  omega

theorem Lay_any {w : World} {B b : Nat} {lim used : Int} {sv : Value} {rk rn : Int} {T : List Thing} (R : Rep w B b lim used sv rk rn T) (r : Int) {xs : List (Int × Int)} {a : Option Addr} {n c : Nat} (h : Src B w a n c xs) (hn : n ≤ 10000000) (hT : T.length ≤ 1000000000000) :
    Calls Try.prog 24 #[.pointer (some ⟨b, 0, none⟩), .int .i64 r, .slice a n c] w fun e w' => e = .returned (.agg #[.int .i64 2, .int .i64 T.length]) ∧
      ∃ sv' t, Rep w' B b lim used sv' rk rn (T ++ [t]) ∧ t.sort = laySort r ∧ t.cells = xs ∧ w.heap.size ≤ t.rb ∧ Fr (b :: sv.ownBlock.toList) w w' ∧ (∀ k, sv'.ownBlock = some k → sv.ownBlock = some k ∨ w.heap.size ≤ k) := by
  obtain rfl := h.len
  unfold laySort
  split
  · exact Lay_arr R r (by assumption) xs a c h.lies (fun _ e => (h.none e).2) hn hT
  · exact Lay_rec R r (by omega) xs a c h.lies (fun _ e => (h.none e).2) hn hT

theorem rLay_any {w : World} {B b : Nat} {lim used : Int} {sv : Value} {rk rn : Int} {U : List RT} (R : RRep w B b lim used sv rk rn U) (r : Int) {xs : List (Int × Int)} {a : Option Addr} {n c : Nat} (h : Src B w a n c xs) (hn : n ≤ 10000000) (m : Nat) (hm : m = U.length) (hT : m ≤ 1000000000000) :
    Calls Try.prog 27 #[.pointer (some ⟨b, 0, none⟩), .int .i64 r, .slice a n c] w fun e w' => e = .returned (.agg #[.int .i64 2, .int .i64 m]) ∧
      ∃ sv' u, RRep w' B b lim used sv' rk rn (U ++ [u]) ∧ u.sort = laySort r ∧ u.cells = xs ∧ (∀ k, u.sl.ownBlock = some k → w.heap.size ≤ k) ∧ Fr (b :: sv.ownBlock.toList) w w' ∧ (∀ k, sv'.ownBlock = some k → sv.ownBlock = some k ∨ w.heap.size ≤ k) := by
  subst hm
  unfold laySort
  by_cases h1 : r < -1
  · rw [if_pos (by omega)]
    exact rLay_low R r h1 xs a n c h.len h.lies h.none hn hT
  · by_cases h2 : r < 0
    · obtain rfl : r = -1 := by omega
      rw [if_pos (by omega)]
      exact rLay_plain R (-1) (by omega) xs a n c h.len h.lies h.none hn hT
    · rw [if_neg h2]
      exact rLay_plain R r (by omega) xs a n c h.len h.lies h.none hn hT

set_option maxRecDepth 100000 in
set_option maxHeartbeats 1000000 in
theorem act_lay {w : World} {B b r : Nat} {lim used rk rn : Int} {sv sr : Value} {T : List Thing} {U : List RT} (J : JI w B b r lim used rk rn sv sr T U) (vk vn wk wn xk xn rec n : Int) {xs : List (Int × Int)} {a : Option Addr} {m c : Nat} (hx : Src B w a m c xs) (hm : m ≤ 10000000) (hT : T.length ≤ 1000000000000) :
    Calls Try.prog 11 #[.pointer (some ⟨b, 0, none⟩), .pointer (some ⟨r, 0, none⟩), actVal 2 vk vn wk wn xk xn rec n (.slice a m c)] w fun e w' => e = .returned (.bool true) ∧
      ∃ sv' sr' t u, JI w' B b r lim used rk rn sv' sr' (T ++ [t]) (U ++ [u]) ∧ t.cells = xs ∧ Below B w w' := by
  unfold actVal
  go_enter Try.func11, Try.ntmps11
  go_wp2_with fail
  have A0 : ABox (w.alloc (.cells #[.int .i64 2, .int .i64 vk, .int .i64 vn, .int .i64 wk, .int .i64 wn, .int .i64 xk, .int .i64 xn, .int .i64 rec, .int .i64 n, .slice a m c] 33)) w.heap.size 2 vk vn wk wn xk xn rec n (.slice a m c) := heap_alloc_new w _
  have f0 : Fr [] w (w.alloc (.cells #[.int .i64 2, .int .i64 vk, .int .i64 vn, .int .i64 wk, .int .i64 wn, .int .i64 xk, .int .i64 xn, .int .i64 rec, .int .i64 n, .slice a m c] 33)) := (Fr.refl _ _).alloc _
  have hBw : B ≤ w.heap.size := by have := J.R.base; have := J.R.hb.lt; omega
  generalize w.alloc (.cells #[.int .i64 2, .int .i64 vk, .int .i64 vn, .int .i64 wk, .int .i64 wn, .int .i64 xk, .int .i64 xn, .int .i64 rec, .int .i64 n, .slice a m c] 33) = w0 at *
  generalize w.heap.size = k0 at *
  have J0 := J.frame f0 (by simp)
  have X0 := hx.fr f0 (by simp)
  have c7 : ∀ w', ABox w' k0 2 vk vn wk wn xk xn rec n (.slice a m c) → w'.cell? ⟨k0, 7, none⟩ = some (.int .i64 rec) := fun w' f => f.cells.2.2.2.2.2.2.2.1
  have c9 : ∀ w', ABox w' k0 2 vk vn wk wn xk xn rec n (.slice a m c) → w'.cell? ⟨k0, 9, none⟩ = some (.slice a m c) := fun w' f => f.cells.2.2.2.2.2.2.2.2.2
  have hBw0 : B ≤ w0.heap.size := by have := J0.R.base; have := J0.R.hb.lt; omega
  have b0 : Below B w w0 := f0.below (by have := J.R.base; have := J.R.hb.lt; omega) (by simp)
  have C1 := Lay_any (J0.frame (Fr.drew (Fr.refl [] w0)) (by simp)).R rec (X0.fr (Fr.drew (Fr.refl [] w0)) (by simp)) hm hT
  have hlen := J.len
  go_region_held3 (fun w' => ABox w' k0 2 vk vn wk wn xk xn rec n (.slice a m c))
    (with_reducible (first | assumption | exact A0.fr (Fr.drew (Fr.refl [] _)) (by simp)))
    (first
      | (go_at_call 24; refine C1.mono ?_; rintro e w1 ⟨rfl, sv1, t, R1, s1, e1, n1, f1', k1⟩; have f1 : Fr (b :: sv.ownBlock.toList) w0 w1 := (Fr.drew (Fr.refl _ _)).trans f1'; have Q1 := J0.Q.fr f1 (past_code J0.R J0.Q); have A1 := A0.fr f1 (A0.out J0.R); have X1 := X0.fr f1 J0.R.low_foot; clear f1')
      | (go_at_call 27; refine (rLay_any Q1 rec X1 hm T.length hlen hT).mono ?_; rintro e w2 ⟨rfl, sr2, u, Q2, s2, e2, n2, f2, k2⟩; have A2 := A1.fr f2 (by have a1 := Q1.hb.ne_of A1 (by decide); have a2 := own_ne Q1.row A1 (by decide); simp only [List.mem_cons, Option.mem_toList, not_or]; exact ⟨a1, a2⟩)))
  all_goals
    have b2 : Below B w w2 := b0.trans ((f1.below hBw0 J0.R.low_foot).trans (f2.below (by have := f1.size; omega) Q1.low_foot))
    have J2 := J0.push (used' := used) J.hu J.hul R1 f1 n1 Q2 f2 n2 (by simp [Thing.abs, RT.abs, s1, e1, s2, e2]) (by rw [s2]; unfold laySort; split <;> omega)
    go_wp2
    go_ret
    exact ⟨rfl, sv1, sr2, t, u, J2, e1, b2⟩
end Go.Proofs.Ytndjoklinccfjaa
