/-
  act at SetRoot and Obj: both heaps answer alike; no condition but that a thing has at most ten million cells.
-/
import Derived.Test.YtndjoklinccfjaaActsI
namespace Go.Proofs.Ytndjoklinccfjaa
open Go.RowKit

set_option maxRecDepth 100000 in
set_option maxHeartbeats 1000000 in
theorem act_setroot {w : World} {B b r : Nat} {lim used rk rn : Int} {sv sr : Value} {T : List Thing} {U : List RT} (J : JI w B b r lim used rk rn sv sr T U) (vk vn wk wn xk xn rec n : Int) (cs : Value) :
    Calls Try.prog 11 #[.pointer (some ⟨b, 0, none⟩), .pointer (some ⟨r, 0, none⟩), actVal 9 vk vn wk wn xk xn rec n cs] w fun e w' => e = .returned (.bool true) ∧ JI w' B b r lim used xk xn sv sr T U ∧ Below B w w' := by
  unfold actVal
  go_enter Try.func11, Try.ntmps11
  go_wp2_with fail
  have A0 : ABox (w.alloc (.cells #[.int .i64 9, .int .i64 vk, .int .i64 vn, .int .i64 wk, .int .i64 wn, .int .i64 xk, .int .i64 xn, .int .i64 rec, .int .i64 n, cs] 33)) w.heap.size 9 vk vn wk wn xk xn rec n cs := heap_alloc_new w _
  have f0 : Fr [] w (w.alloc (.cells #[.int .i64 9, .int .i64 vk, .int .i64 vn, .int .i64 wk, .int .i64 wn, .int .i64 xk, .int .i64 xn, .int .i64 rec, .int .i64 n, cs] 33)) := (Fr.refl _ _).alloc _
  have hBw : B ≤ w.heap.size := by have := J.R.base; have := J.R.hb.lt; omega
  generalize w.alloc (.cells #[.int .i64 9, .int .i64 vk, .int .i64 vn, .int .i64 wk, .int .i64 wn, .int .i64 xk, .int .i64 xn, .int .i64 rec, .int .i64 n, cs] 33) = w0 at *
  generalize w.heap.size = k0 at *
  have J0 := J.frame f0 (by simp)
  have hBw0 : B ≤ w0.heap.size := by have := J0.R.base; have := J0.R.hb.lt; omega
  have b0 : Below B w w0 := f0.below (by have := J.R.base; have := J.R.hb.lt; omega) (by simp)
  refine (SetRoot_any J0.R xk xn).mono ?_
  rintro e w1 ⟨rfl, R1, f1⟩
  have Q1 := J0.Q.fr f1 (fun k hk hm => past_code J0.R J0.Q k hk (by simp at hm; simp [hm]))
  have A1 := A0.fr f1 (by have := A0.out J0.R; simp at this ⊢; exact this.1)
  have c5 := A1.cells.2.2.2.2.2.1
  have c6 := A1.cells.2.2.2.2.2.2.1
  have z3 := Q1.hb.fz 3
  have z4 := Q1.hb.fz 4
  have d3 := Q1.hb.c3
  have d4 := Q1.hb.c4
  have f2 : Fr [r] w1 ((w1.setCell ⟨r, 3, none⟩ (.int .i64 xk)).setCell ⟨r, 4, none⟩ (.int .i64 xn)) := Fr.setCell (Fr.setCell (Fr.refl _ _) (.inl (by simp)) _) (.inl (by simp)) _
  have Q2 := Q1.setRoot xk xn
  have R2 := past_ref R1 Q1 f2 (fun k hk => .inl (by simp at hk; simp [hk]))
  go_wp2_with fail
  generalize (w1.setCell ⟨r, 3, none⟩ (.int .i64 xk)).setCell ⟨r, 4, none⟩ (.int .i64 xn) = w2 at *
  have b2 : Below B w w2 := b0.trans ((f1.below hBw0 (by simp; exact J0.R.base)).trans (f2.below (by have := f1.size; omega) (by simp; exact Q1.base)))
  have J2 : JI w2 B b r lim used xk xn sv sr T U := ⟨R2, Q2, J.same, J.apart, J.sorts, J.hl, J.hu, J.hul, J.hlm⟩
  have hB2 : B ≤ w2.heap.size := by have := J2.R.base; have := J2.R.hb.lt; omega
  have e3 : ∀ w', Fr [] w2 w' → w'.cell? ⟨r, 3, none⟩ = some (.int .i64 xk) := fun w' f => (Q2.hb.fr f (by simp)).c3
  have e4 : ∀ w', Fr [] w2 w' → w'.cell? ⟨r, 4, none⟩ = some (.int .i64 xn) := fun w' f => (Q2.hb.fr f (by simp)).c4
  clear c5 c6 z3 z4 d3 d4 A0 A1
  go_region_held3 (fun w' => Fr [] w2 w')
    (with_reducible (first | assumption | exact Fr.drew (Fr.refl _ _)))
    (first
      | (go_at_call 36; refine (Root_any ((R2.hb).fr (by assumption) (by simp))).mono ?_; rintro e w3 ⟨rfl, f3⟩; have F3 := Fr.trans (by assumption) f3))
  all_goals (rename_i hH; go_wp2; go_ret; exact ⟨rfl, J2.frame hH (by simp), b2.trans (hH.below hB2 (by simp))⟩)

/-- A thing's sort is that under which it was laid. -/
theorem JI.sort {w : World} {B b r : Nat} {lim used rk rn : Int} {sv sr : Value} {T : List Thing} {U : List RT} (J : JI w B b r lim used rk rn sv sr T U) {i : Nat} {t : Thing} (ht : T[i]? = some t) : -1 ≤ t.sort := by
  obtain ⟨u, hu, hab⟩ := J.twin ht
  have h1 := J.sorts u (List.mem_of_getElem? hu)
  have h2 : t.sort = u.sort := congrArg Prod.fst hab
  omega

theorem Obj_ok {w : World} {B b : Nat} {lim used : Int} {sv : Value} {rk rn : Int} {T : List Thing} (R : Rep w B b lim used sv rk rn T) (i : Nat) (t : Thing) (ht : T[i]? = some t) (hs : -1 ≤ t.sort) (hn : t.cells.length ≤ 10000000) :
    Calls Try.prog 13 #[.pointer (some ⟨b, 0, none⟩), .agg #[.int .i64 2, .int .i64 (i : Int)]] w fun e w' => ∃ g, e = .returned (.tuple #[.agg #[.int .i64 t.sort, .slice (some ⟨g, 0, none⟩) t.cells.length t.cells.length], .bool true]) ∧ Fr [] w w' ∧ w.heap.size ≤ g ∧ w'.heap[g]? = some (.cells (flat t.cells).toArray 30 (0, 0)) := by
  by_cases h : t.sort < 0
  · have e : t.sort = -1 := by omega
    have := Obj_arr R i t ht h hn
    rw [e]
    exact this
  · exact Obj_rec R i t ht (by omega) hn

set_option maxRecDepth 100000 in
set_option maxHeartbeats 1000000 in
theorem act_obj_bad {w : World} {B b r : Nat} {lim used rk rn : Int} {sv sr : Value} {T : List Thing} {U : List RT} (J : JI w B b r lim used rk rn sv sr T U) (d vk vn wk wn xk xn rec n : Int) (cs : Value) (hd : d < 0 ∨ 9 < d) (h : bad T vk vn) :
    Calls Try.prog 11 #[.pointer (some ⟨b, 0, none⟩), .pointer (some ⟨r, 0, none⟩), actVal d vk vn wk wn xk xn rec n cs] w fun e w' => e = .returned (.bool true) ∧ JI w' B b r lim used rk rn sv sr T U ∧ Below B w w' := by
  unfold actVal
  have q0 : (d == 0) = false := by simp; omega
  have q1 : (d == 1) = false := by simp; omega
  have q2 : (d == 2) = false := by simp; omega
  have q3 : (d == 3) = false := by simp; omega
  have q4 : (d == 4) = false := by simp; omega
  have q5 : (d == 5) = false := by simp; omega
  have q6 : (d == 6) = false := by simp; omega
  have q7 : (d == 7) = false := by simp; omega
  have q8 : (d == 8) = false := by simp; omega
  have q9 : (d == 9) = false := by simp; omega
  clear hd
  go_enter Try.func11, Try.ntmps11
  go_wp2_with fail
  have A0 : ABox (w.alloc (.cells #[.int .i64 d, .int .i64 vk, .int .i64 vn, .int .i64 wk, .int .i64 wn, .int .i64 xk, .int .i64 xn, .int .i64 rec, .int .i64 n, cs] 33)) w.heap.size d vk vn wk wn xk xn rec n cs := heap_alloc_new w _
  have f0 : Fr [] w (w.alloc (.cells #[.int .i64 d, .int .i64 vk, .int .i64 vn, .int .i64 wk, .int .i64 wn, .int .i64 xk, .int .i64 xn, .int .i64 rec, .int .i64 n, cs] 33)) := (Fr.refl _ _).alloc _
  have hBw : B ≤ w.heap.size := by have := J.R.base; have := J.R.hb.lt; omega
  generalize w.alloc (.cells #[.int .i64 d, .int .i64 vk, .int .i64 vn, .int .i64 wk, .int .i64 wn, .int .i64 xk, .int .i64 xn, .int .i64 rec, .int .i64 n, cs] 33) = w0 at *
  have J0 := J.frame f0 (by simp)
  refine (Obj_no J0.R vk vn h).mono ?_
  rintro e w1 ⟨rfl, f1⟩
  have J2 := fun o => (J0.frame f1 (by simp)).frame ((Fr.refl [] w1).alloc o) (by simp)
  have A2 := fun o => ((A0.fr f1 (by simp)).fr ((Fr.refl [] w1).alloc o) (by simp)).cells
  have f2 : Fr [] w1 (w1.alloc (.cells #[.int .i64 0, .slice none 0 0] 40)) := (Fr.refl _ _).alloc _
  go_wp2_with fail
  refine (At_bad (J2 _).Q vk vn (by rw [← J.len]; exact h)).mono ?_
  rintro e w3 ⟨rfl, f3⟩
  have F : Fr [] w w3 := ((f0.trans f1).trans f2).trans f3
  clear A0 A2 J2 f0 f1 f2 f3 J0 q0 q1 q2 q3 q4 q5 q6 q7 q8 q9
  go_wp2_with fail
  go_quiet (fail)
  go_wp2
  go_ret
  exact ⟨rfl, J.frame (F.drewN _) (by simp), (F.drewN _).below hBw (by simp)⟩

set_option maxRecDepth 100000 in
set_option maxHeartbeats 1000000 in
theorem act_obj_ok {w : World} {B b r : Nat} {lim used rk rn : Int} {sv sr : Value} {T : List Thing} {U : List RT} (J : JI w B b r lim used rk rn sv sr T U) (d wk wn xk xn rec n : Int) (cs : Value) (hd : d < 0 ∨ 9 < d) (i : Nat) (t : Thing) (ht : T[i]? = some t) (hn : t.cells.length ≤ 10000000) :
    Calls Try.prog 11 #[.pointer (some ⟨b, 0, none⟩), .pointer (some ⟨r, 0, none⟩), actVal d 2 (i : Int) wk wn xk xn rec n cs] w fun e w' => e = .returned (.bool true) ∧ JI w' B b r lim used rk rn sv sr T U ∧ Below B w w' := by
  unfold actVal
  have q0 : (d == 0) = false := by simp; omega
  have q1 : (d == 1) = false := by simp; omega
  have q2 : (d == 2) = false := by simp; omega
  have q3 : (d == 3) = false := by simp; omega
  have q4 : (d == 4) = false := by simp; omega
  have q5 : (d == 5) = false := by simp; omega
  have q6 : (d == 6) = false := by simp; omega
  have q7 : (d == 7) = false := by simp; omega
  have q8 : (d == 8) = false := by simp; omega
  have q9 : (d == 9) = false := by simp; omega
  clear hd
  obtain ⟨u, hu, hab⟩ := J.twin ht
  have HS : Hid (u.sort = t.sort) := (congrArg Prod.fst hab).symm
  have HC : Hid (u.cells = t.cells) := (congrArg Prod.snd hab).symm
  clear hab
  have hso := J.sort ht
  have hi : i < T.length := (List.getElem?_eq_some_iff.1 ht).1
  have hmu := List.mem_of_getElem? hu
  have HL : Hid (T.length = U.length) := J.len
  go_enter Try.func11, Try.ntmps11
  go_wp2_with fail
  have A0 : ABox (w.alloc (.cells #[.int .i64 d, .int .i64 2, .int .i64 (i : Int), .int .i64 wk, .int .i64 wn, .int .i64 xk, .int .i64 xn, .int .i64 rec, .int .i64 n, cs] 33)) w.heap.size d 2 (i : Int) wk wn xk xn rec n cs := heap_alloc_new w _
  have f0 : Fr [] w (w.alloc (.cells #[.int .i64 d, .int .i64 2, .int .i64 (i : Int), .int .i64 wk, .int .i64 wn, .int .i64 xk, .int .i64 xn, .int .i64 rec, .int .i64 n, cs] 33)) := (Fr.refl _ _).alloc _
  have hBw : B ≤ w.heap.size := by have := J.R.base; have := J.R.hb.lt; omega
  generalize w.alloc (.cells #[.int .i64 d, .int .i64 2, .int .i64 (i : Int), .int .i64 wk, .int .i64 wn, .int .i64 xk, .int .i64 xn, .int .i64 rec, .int .i64 n, cs] 33) = w0 at *
  have J0 := J.frame f0 (by simp)
  refine (Obj_ok J0.R i t ht hso hn).mono ?_
  rintro e w1 ⟨g, rfl, f1, hg, hrow⟩
  have J2 := fun o => (J0.frame f1 (by simp)).frame ((Fr.refl [] w1).alloc o) (by simp)
  have A2 := fun o => ((A0.fr f1 (by simp)).fr ((Fr.refl [] w1).alloc o) (by simp)).cells
  have f2 : Fr [] w1 (w1.alloc (.cells #[.int .i64 t.sort, .slice (some ⟨g, 0, none⟩) t.cells.length t.cells.length] 40)) := (Fr.refl _ _).alloc _
  have V2 : (w1.alloc (.cells #[.int .i64 t.sort, .slice (some ⟨g, 0, none⟩) t.cells.length t.cells.length] 40)).heap[w1.heap.size]? = some (.cells #[.int .i64 t.sort, .slice (some ⟨g, 0, none⟩) t.cells.length t.cells.length] 40) := heap_alloc_new w1 _
  go_wp2_with fail
  refine (At_ok (J2 _).Q (i : Int) (by omega) (by have := HL.out; omega)).mono ?_
  rintro e w3 ⟨rfl, f3⟩
  have F : Fr [] w w3 := ((f0.trans f1).trans f2).trans f3
  have V3 := (f3.block w1.heap.size (by simp) (by simp)).trans V2
  have L3 : Lies w3 (some ⟨g, 0, none⟩) t.cells := ((row_lies hrow).fr f2 (by simp)).fr f3 (by simp)
  have J3 := J.frame F (by simp)
  obtain ⟨gr, cr, ar, cu, hsr, hsl, hread⟩ := J3.Q.reads hu
  have M3 : Lies w3 ar t.cells := by
    have h1 := J3.Q.th u hmu
    intro hp
    obtain ⟨x, hx⟩ : ∃ x, u.cells[0]? = some x := ⟨_, List.getElem?_eq_getElem (by rw [HC.out]; exact hp)⟩
    obtain ⟨g1, c2, e2, _, _, _, _⟩ := own_pair h1 hx
    rw [hsl] at e2
    injection e2 with e3 e4 e5
    subst e3
    have h2 := h1
    rw [hsl] at h2
    refine ⟨_, rfl, fun j v hv => ?_⟩
    rw [← HC.out] at hv
    obtain ⟨g2, c3, e6, h3, _, _⟩ := own_cells h2 hv
    injection e6 with e7 e8 e9
    injection e7 with e7
    injection e7 with e7
    subst e7
    rw [show Addr.add ⟨g1, 0, none⟩ j = ⟨g1, j, none⟩ by simp only [Addr.add]; split <;> simp_all]
    exact h3
  generalize w1.heap.size = k1 at *
  have v0 : ∀ w', Fr [] w3 w' → w'.cell? ⟨k1, 0, none⟩ = some (.int .i64 t.sort) := fun w' f => by
    have := (f.block k1 (Array.getElem?_eq_some_iff.1 V3).1 (by simp)).trans V3
    simp [World.cell?, this]
  have v1 : ∀ w', Fr [] w3 w' → w'.cell? ⟨k1, 1, none⟩ = some (.slice (some ⟨g, 0, none⟩) t.cells.length t.cells.length) := fun w' f => by
    have := (f.block k1 (Array.getElem?_eq_some_iff.1 V3).1 (by simp)).trans V3
    simp [World.cell?, this]
  have r0 : ∀ w', Fr [] w3 w' → w'.cell? ⟨r, 0, none⟩ = some (.slice (some ⟨gr, 0, none⟩) U.length cr) := fun w' f => (hread w' f).1
  have r1 : ∀ w', Fr [] w3 w' → w'.cell? ⟨gr, i * 2, none⟩ = some (.int .i64 t.sort) := fun w' f => by rw [(hread w' f).2.1, HS.out]
  have r2 : ∀ w', Fr [] w3 w' → w'.cell? ⟨gr, i * 2 + 1, none⟩ = some (.slice ar t.cells.length cu) := fun w' f => by rw [(hread w' f).2.2, HC.out]
  have C5 := fun w' (f : Fr [] w3 w') => SameObj_any w' t.sort t.cells t.cells.length rfl (some ⟨g, 0, none⟩) ar t.cells.length cu (L3.fr f (by simp)) (M3.fr f (by simp)) (by omega)
  have hiU : (i : Int) < (U.length : Int) := by have := HL.out; omega
  have hB3 : B ≤ w3.heap.size := by have := J3.R.base; have := J3.R.hb.lt; omega
  clear A0 A2 J2 f0 f1 f2 f3 J0 q0 q1 q2 q3 q4 q5 q6 q7 q8 q9 V2 V3 hrow hread hg
  go_wp2_with fail
  go_region_held3 (fun w' => Fr [] w3 w')
    (with_reducible (first | assumption | exact Fr.drew (Fr.refl _ _)))
    (first
      | (go_at_call 15; refine (C5 _ (by assumption)).mono ?_; rintro e w5 ⟨rfl, f5⟩; have F5 := Fr.trans (by assumption) f5))
  all_goals (rename_i hH; go_wp2; go_ret; exact ⟨rfl, J3.frame hH (by simp), (F.trans hH).below hBw (by simp)⟩)
end Go.Proofs.Ytndjoklinccfjaa
