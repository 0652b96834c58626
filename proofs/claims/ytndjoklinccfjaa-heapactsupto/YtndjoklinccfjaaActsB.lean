/-
  act at Rec: both heaps answer alike; no condition.
-/
import Derived.Test.YtndjoklinccfjaaActsA
namespace Go.Proofs.Ytndjoklinccfjaa
open Go.RowKit

/-- An act as a value. -/
def actVal (d vk vn wk wn xk xn rec n : Int) (cs : Value) : Value := .agg #[.int .i64 d, .int .i64 vk, .int .i64 vn, .int .i64 wk, .int .i64 wn, .int .i64 xk, .int .i64 xn, .int .i64 rec, .int .i64 n, cs]

/-- The box of an act. -/
def ABox (w : World) (k : Nat) (d vk vn wk wn xk xn rec n : Int) (cs : Value) : Prop := w.heap[k]? = some (.cells #[.int .i64 d, .int .i64 vk, .int .i64 vn, .int .i64 wk, .int .i64 wn, .int .i64 xk, .int .i64 xn, .int .i64 rec, .int .i64 n, cs] 33)

theorem ABox.fr {S : List Nat} {w w' : World} {k : Nat} {d vk vn wk wn xk xn rec n : Int} {cs : Value} (h : ABox w k d vk vn wk wn xk xn rec n cs) (f : Fr S w w') (hS : k ∉ S) : ABox w' k d vk vn wk wn xk xn rec n cs := (f.block k (Array.getElem?_eq_some_iff.1 h).1 hS).trans h

theorem ABox.cells {w : World} {k : Nat} {d vk vn wk wn xk xn rec n : Int} {cs : Value} (h : ABox w k d vk vn wk wn xk xn rec n cs) : w.cell? ⟨k, 0, none⟩ = some (.int .i64 d) ∧ w.cell? ⟨k, 1, none⟩ = some (.int .i64 vk) ∧ w.cell? ⟨k, 2, none⟩ = some (.int .i64 vn) ∧ w.cell? ⟨k, 3, none⟩ = some (.int .i64 wk) ∧ w.cell? ⟨k, 4, none⟩ = some (.int .i64 wn) ∧ w.cell? ⟨k, 5, none⟩ = some (.int .i64 xk) ∧ w.cell? ⟨k, 6, none⟩ = some (.int .i64 xn) ∧ w.cell? ⟨k, 7, none⟩ = some (.int .i64 rec) ∧ w.cell? ⟨k, 8, none⟩ = some (.int .i64 n) ∧ w.cell? ⟨k, 9, none⟩ = some cs := by
  unfold ABox at h
  refine ⟨?_, ?_, ?_, ?_, ?_, ?_, ?_, ?_, ?_, ?_⟩ <;> simp [World.cell?, h]

theorem ABox.out {w : World} {k : Nat} {d vk vn wk wn xk xn rec n : Int} {cs : Value} (h : ABox w k d vk vn wk wn xk xn rec n cs) {B b : Nat} {lim used : Int} {sv : Value} {rk rn : Int} {T : List Thing} (R : Rep w B b lim used sv rk rn T) : k ∉ b :: sv.ownBlock.toList := by
  have a1 := R.hb.ne_of h (by decide)
  have a2 := own_ne R.row h (by decide)
  simp only [List.mem_cons, Option.mem_toList, not_or]
  exact ⟨a1, a2⟩

theorem frame_below {S : List Nat} {w w' : World} {B : Nat} (f : Fr S w w') (hB : B ≤ w.heap.size) (hS : ∀ k, k ∈ S → B ≤ k) : Below B w w' := f.below hB hS

theorem Rep.low_foot {w : World} {B b : Nat} {lim used : Int} {sv : Value} {rk rn : Int} {T : List Thing} (R : Rep w B b lim used sv rk rn T) : ∀ k, k ∈ b :: sv.ownBlock.toList → B ≤ k := by
  intro k hk
  simp only [List.mem_cons, Option.mem_toList] at hk
  rcases hk with rfl | hk
  · exact R.base
  · exact (R.row.lt k hk).1
theorem RRep.low_foot {w : World} {B b : Nat} {lim used : Int} {sv : Value} {rk rn : Int} {U : List RT} (R : RRep w B b lim used sv rk rn U) : ∀ k, k ∈ b :: sv.ownBlock.toList → B ≤ k := by
  intro k hk
  simp only [List.mem_cons, Option.mem_toList] at hk
  rcases hk with rfl | hk
  · exact R.base
  · exact (R.row.lt k hk).1

set_option maxRecDepth 100000 in
set_option maxHeartbeats 1000000 in
theorem act_rec_ok {w : World} {B b r : Nat} {lim used rk rn : Int} {sv sr : Value} {T : List Thing} {U : List RT} (J : JI w B b r lim used rk rn sv sr T U) (vk vn wk wn xk xn rec n : Int) (cs : Value) (hr : 0 ≤ rec) (h0 : 0 ≤ n) (h1 : n ≤ 1000) (hc : 1 + n ≤ lim - used) (hT : T.length ≤ 1000000000000) :
    Calls Try.prog 11 #[.pointer (some ⟨b, 0, none⟩), .pointer (some ⟨r, 0, none⟩), actVal 0 vk vn wk wn xk xn rec n cs] w fun e w' => e = .returned (.bool true) ∧
      ∃ sv' sr' t u, JI w' B b r lim (used + (1 + n)) rk rn sv' sr' (T ++ [t]) (U ++ [u]) ∧ Hid (t.cells.length ≤ 10000000) ∧ Below B w w' := by
  unfold actVal
  go_enter Try.func11, Try.ntmps11
  go_wp2_with fail
  have A0 : ABox (w.alloc (.cells #[.int .i64 0, .int .i64 vk, .int .i64 vn, .int .i64 wk, .int .i64 wn, .int .i64 xk, .int .i64 xn, .int .i64 rec, .int .i64 n, cs] 33)) w.heap.size 0 vk vn wk wn xk xn rec n cs := heap_alloc_new w _
  have J0 := J.frame ((Fr.refl [] w).alloc (.cells #[.int .i64 0, .int .i64 vk, .int .i64 vn, .int .i64 wk, .int .i64 wn, .int .i64 xk, .int .i64 xn, .int .i64 rec, .int .i64 n, cs] 33)) (by simp)
  have f0 : Fr [] w (w.alloc (.cells #[.int .i64 0, .int .i64 vk, .int .i64 vn, .int .i64 wk, .int .i64 wn, .int .i64 xk, .int .i64 xn, .int .i64 rec, .int .i64 n, cs] 33)) := (Fr.refl _ _).alloc _
  have hBw : B ≤ w.heap.size := by have := J.R.base; have := J.R.hb.lt; omega
  generalize w.alloc (.cells #[.int .i64 0, .int .i64 vk, .int .i64 vn, .int .i64 wk, .int .i64 wn, .int .i64 xk, .int .i64 xn, .int .i64 rec, .int .i64 n, cs] 33) = w0 at *
  have b0 : Below B w w0 := f0.below hBw (by simp)
  generalize w.heap.size = k0 at *
  refine (rec_int J0.R rec n hr h0 h1 J.hl J.hu J.hul J.hlm hc hT).mono ?_
  rintro e w1 ⟨rfl, sv1, t, R1, s1, c1, n1, f1, k1⟩
  have hB0 : B ≤ w0.heap.size := by have := J0.R.base; have := J0.R.hb.lt; omega
  have b1 : Below B w w1 := b0.trans (f1.below hB0 J0.R.low_foot)
  have A1 := A0.fr f1 (A0.out J0.R)
  have Q1 := J0.Q.fr f1 (past_code J0.R J0.Q)
  have A2 := fun o => A1.fr ((Fr.refl [] w1).alloc o) (by simp)
  have Q2 := fun o => Q1.frame ((Fr.refl [] w1).alloc o) (by simp)
  have a7 := fun o => (A2 o).cells.2.2.2.2.2.2.2.1
  have a8 := fun o => (A2 o).cells.2.2.2.2.2.2.2.2.1
  have V2 := Box.new w1 2 (T.length : Int)
  have f2 : Fr [] w1 (w1.alloc (.cells #[.int .i64 2, .int .i64 (T.length : Int)] 30)) := (Fr.refl _ _).alloc _
  go_wp2_with fail
  refine (rrec_yes (Q2 _) rec n hr h0 h1 J.hl J.hu J.hul J.hlm hc (by rw [← J.len]; exact hT)).mono ?_
  rintro e w3 ⟨rfl, sr3, u, Q3, s3, c3, n3, f3, k3⟩
  have hv : w1.heap.size ∉ r :: sr.ownBlock.toList := by
    intro hm
    have := Q1.lt w1.heap.size (by simp only [List.mem_cons, Option.mem_toList] at hm; unfold rfoot; simp only [List.mem_cons, List.mem_append, Option.mem_toList]; rcases hm with e | e; exact .inl e; exact .inr (.inl e))
    omega
  have V3 := V2.fr f3 hv
  have v0 := fun o => (V3.fr ((Fr.refl [] w3).alloc o) (by simp)).c0
  have v1 := fun o => (V3.fr ((Fr.refl [] w3).alloc o) (by simp)).c1
  have hB1 : B ≤ w1.heap.size := by have := f1.size; omega
  have b3 : Below B w w3 := b1.trans ((f2.below hB1 (by simp)).trans (f3.below (by simp; omega) Q1.low_foot))
  have J3 := J0.push (used' := used + (1 + n)) (by have := J.hu; omega) (by omega) R1 f1 n1 Q3 ((f2.sub (by simp)).trans f3) (fun k hk => by have := n3 k hk; simp at this; omega) (by simp [Thing.abs, RT.abs, s1, c1, s3, c3]) (by omega)
  have HT : Hid (t.cells.length ≤ 10000000) := by unfold Hid; rw [c1]; have := J.hlm; have := J.hu; simp; omega
  have hB3 : B ≤ w3.heap.size := by have := f3.size; simp at this; omega
  have hlen : (T.length : Int) = (U.length : Int) := by rw [J.len]
  have HL : Hid ((T.length : Int) = (U.length : Int)) := hlen
  rw [← hlen]
  clear hlen A0 A1 A2 Q1 Q2 a7 a8 V2 V3 f0 f1 f2 f3 b0 b1 J0 R1 Q3 n1 n3 k1 k3 s1 s3 c1 c3 hv
  go_wp2
  go_ret
  exact ⟨rfl, sv1, sr3, t, u, J3.frame ((Fr.refl [] _).alloc _) (by simp), HT, b3.alloc hB3 _⟩
end Go.Proofs.Ytndjoklinccfjaa
