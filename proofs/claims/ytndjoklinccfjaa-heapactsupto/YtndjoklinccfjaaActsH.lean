/-
  act at SetField and SetElem where they are done: both heaps take the same value at the same place; no condition.
-/
import Derived.Test.YtndjoklinccfjaaActsG
namespace Go.Proofs.Ytndjoklinccfjaa
open Go.RowKit

/-- A thing's row is nothing of the reference's heap. -/
theorem JI.out_code {w : World} {B b r : Nat} {lim used rk rn : Int} {sv sr : Value} {T : List Thing} {U : List RT} (J : JI w B b r lim used rk rn sv sr T U) {t : Thing} (ht : t ∈ T) : ∀ k, k ∈ rfoot r sr U → k ∉ [t.rb] := by
  intro k hk hm
  simp only [List.mem_singleton] at hm
  subst hm
  unfold rfoot at hk
  simp only [List.mem_cons, List.mem_append, Option.mem_toList, List.mem_flatMap] at hk
  rcases hk with e | hk | ⟨u, hu, hk⟩
  · exact J.Q.hb.ne_of (J.R.th t ht).row (by decide) e
  · exact own_ne J.Q.row (J.R.th t ht).row (by decide) hk
  · exact J.apart t ht u hu hk

/-- A row of the reference's is nothing of the code's heap. -/
theorem out_ref {w w' : World} {B b : Nat} {lim used rk rn : Int} {sv : Value} {T : List Thing} (R : Rep w B b lim used sv rk rn T) {v : Value} {n : Nat} {xs : List Value} (hv : w.ownsRow B 30 2 v n xs) (ap : ∀ t, t ∈ T → v.ownBlock ≠ some t.rb) (f : Fr v.ownBlock.toList w w') : Rep w' B b lim used sv rk rn T := by
  refine R.keeps f ?_ ?_ ?_
  · simp only [Option.mem_toList]
    exact own_ne hv R.hb (by decide)
  · intro k hk
    simp only [Option.mem_toList]
    exact own_ne2 R.row hv (by decide) k hk
  · intro t ht
    simp only [Option.mem_toList]
    refine ⟨?_, ap t ht⟩
    have h1 := (R.th t ht).own
    unfold Thing.body at h1
    split at h1
    · exact own_ne hv h1 (by decide)
    · exact own_ne hv h1 (by decide)

theorem mem_set_or {α : Type} {l : List α} {i : Nat} {a b : α} (h : b ∈ l.set i a) : b ∈ l ∨ b = a := List.mem_or_eq_of_mem_set h

/-- Both heaps have taken a value at the same place. -/
theorem JI.put {w w1 w2 : World} {B b r : Nat} {lim used rk rn : Int} {sv sr : Value} {T : List Thing} {U : List RT} (J : JI w B b r lim used rk rn sv sr T U) {i : Nat} {t : Thing} (ht : T[i]? = some t) {u : RT} (hu : U[i]? = some u) (hab : t.abs = u.abs) (a : Nat) (x : Int × Int)
    (R1 : Rep w1 B b lim used sv rk rn (T.set i (t.put a x))) (Q1 : RRep w1 B r lim used sr rk rn U) (Q2 : RRep w2 B r lim used sr rk rn (U.set i (u.put a x))) (f2 : Fr u.sl.ownBlock.toList w1 w2) : JI w2 B b r lim used rk rn sv sr (T.set i (t.put a x)) (U.set i (u.put a x)) := by
  have hmt := List.mem_of_getElem? ht
  have hmu := List.mem_of_getElem? hu
  have ap : ∀ t', t' ∈ T.set i (t.put a x) → ∀ u', u' ∈ U.set i (u.put a x) → u'.sl.ownBlock ≠ some t'.rb := by
    intro t' ht' u' hu'
    rcases mem_set_or ht' with ht' | rfl <;> rcases mem_set_or hu' with hu' | rfl
    · exact J.apart t' ht' u' hu'
    · exact J.apart t' ht' u hmu
    · exact J.apart t hmt u' hu'
    · exact J.apart t hmt u hmu
  refine ⟨out_ref R1 (Q1.th u hmu) (fun t' ht' => ?_) f2, Q2, ?_, ap, ?_, J.hl, J.hu, J.hul, J.hlm⟩
  · rcases mem_set_or ht' with ht' | rfl
    · exact J.apart t' ht' u hmu
    · exact J.apart t hmt u hmu
  · rw [List.map_set, List.map_set, J.same]
    congr 1
    simp only [Thing.abs, RT.abs, Prod.mk.injEq] at hab
    simp only [Thing.abs, RT.abs, Thing.put, RT.put, hab.1, hab.2]
  · intro u' hu'
    rcases mem_set_or hu' with hu' | rfl
    · exact J.sorts u' hu'
    · exact J.sorts u hmu

set_option maxRecDepth 100000 in
set_option maxHeartbeats 1000000 in
theorem act_setfield_ok {w : World} {B b r : Nat} {lim used rk rn : Int} {sv sr : Value} {T : List Thing} {U : List RT} (J : JI w B b r lim used rk rn sv sr T U) (wk wn xk xn : Int) (cs : Value) (i j : Nat) (t : Thing) (ht : T[i]? = some t) (hs : 0 ≤ t.sort) (hj : j < t.cells.length) :
    Calls Try.prog 11 #[.pointer (some ⟨b, 0, none⟩), .pointer (some ⟨r, 0, none⟩), actVal 5 2 (i : Int) wk wn xk xn t.sort (j : Int) cs] w fun e w' => e = .returned (.bool true) ∧ ∃ u, U[i]? = some u ∧ JI w' B b r lim used rk rn sv sr (T.set i (t.put j (xk, xn))) (U.set i (u.put j (xk, xn))) ∧ Below B w w' := by
  unfold actVal
  obtain ⟨u, hu, hab⟩ := J.twin ht
  have HS : Hid (u.sort = t.sort) := (congrArg Prod.fst hab).symm
  have HC : Hid (u.cells = t.cells) := (congrArg Prod.snd hab).symm
  have HA : Hid (t.abs = u.abs) := hab
  clear hab
  have hmt := List.mem_of_getElem? ht
  have hmu := List.mem_of_getElem? hu
  go_enter Try.func11, Try.ntmps11
  go_wp2_with fail
  have A0 : ABox (w.alloc (.cells #[.int .i64 5, .int .i64 2, .int .i64 (i : Int), .int .i64 wk, .int .i64 wn, .int .i64 xk, .int .i64 xn, .int .i64 t.sort, .int .i64 (j : Int), cs] 33)) w.heap.size 5 2 (i : Int) wk wn xk xn t.sort (j : Int) cs := heap_alloc_new w _
  have f0 : Fr [] w (w.alloc (.cells #[.int .i64 5, .int .i64 2, .int .i64 (i : Int), .int .i64 wk, .int .i64 wn, .int .i64 xk, .int .i64 xn, .int .i64 t.sort, .int .i64 (j : Int), cs] 33)) := (Fr.refl _ _).alloc _
  have hBw : B ≤ w.heap.size := by have := J.R.base; have := J.R.hb.lt; omega
  generalize w.alloc (.cells #[.int .i64 5, .int .i64 2, .int .i64 (i : Int), .int .i64 wk, .int .i64 wn, .int .i64 xk, .int .i64 xn, .int .i64 t.sort, .int .i64 (j : Int), cs] 33) = w0 at *
  generalize w.heap.size = k0 at *
  have J0 := J.frame f0 (by simp)
  have c1 : ∀ w', ABox w' k0 5 2 (i : Int) wk wn xk xn t.sort (j : Int) cs → w'.cell? ⟨k0, 1, none⟩ = some (.int .i64 2) := fun w' f => f.cells.2.1
  have c2 : ∀ w', ABox w' k0 5 2 (i : Int) wk wn xk xn t.sort (j : Int) cs → w'.cell? ⟨k0, 2, none⟩ = some (.int .i64 (i : Int)) := fun w' f => f.cells.2.2.1
  have c5 : ∀ w', ABox w' k0 5 2 (i : Int) wk wn xk xn t.sort (j : Int) cs → w'.cell? ⟨k0, 5, none⟩ = some (.int .i64 xk) := fun w' f => f.cells.2.2.2.2.2.1
  have c6 : ∀ w', ABox w' k0 5 2 (i : Int) wk wn xk xn t.sort (j : Int) cs → w'.cell? ⟨k0, 6, none⟩ = some (.int .i64 xn) := fun w' f => f.cells.2.2.2.2.2.2.1
  have c7 : ∀ w', ABox w' k0 5 2 (i : Int) wk wn xk xn t.sort (j : Int) cs → w'.cell? ⟨k0, 7, none⟩ = some (.int .i64 t.sort) := fun w' f => f.cells.2.2.2.2.2.2.2.1
  have c8 : ∀ w', ABox w' k0 5 2 (i : Int) wk wn xk xn t.sort (j : Int) cs → w'.cell? ⟨k0, 8, none⟩ = some (.int .i64 (j : Int)) := fun w' f => f.cells.2.2.2.2.2.2.2.2.1
  have hBw0 : B ≤ w0.heap.size := by have := J0.R.base; have := J0.R.hb.lt; omega
  have b0 : Below B w w0 := f0.below (by have := J.R.base; have := J.R.hb.lt; omega) (by simp)
  have hk0 : k0 ≠ t.rb := fun e => by have h1 := (J0.R.th t hmt).row; unfold ABox at A0; rw [e, h1] at A0; simp at A0
  have C1 := SetField_ok (J0.frame (Fr.drew (Fr.refl [] w0)) (by simp)).R i t ht j hs hj xk xn
  go_region_held3 (fun w' => ABox w' k0 5 2 (i : Int) wk wn xk xn t.sort (j : Int) cs)
    (with_reducible (first | assumption | exact A0.fr (Fr.drew (Fr.refl [] _)) (by simp)))
    (first
      | (go_at_call 19; refine C1.mono ?_; rintro e w1 ⟨rfl, R1, f1'⟩; have f1 : Fr [t.rb] w0 w1 := (Fr.drew (Fr.refl _ _)).trans f1'; have Q1 := J0.Q.fr f1 (J0.out_code hmt); have A1 := A0.fr f1 (by simpa using hk0); clear f1')
      | (go_at_call 31; refine (rSetField_ok Q1 i u hu t.sort j hs HS.out (by rw [HC.out]; exact hj) xk xn).mono ?_; rintro e w2 ⟨rfl, Q2, f2⟩; have A2 := A1.fr f2 (by simp only [Option.mem_toList]; exact own_ne (Q1.th u hmu) A1 (by decide))))
  all_goals
    have b2 : Below B w w2 := b0.trans ((f1.below hBw0 (by simp; exact J0.R.rows t hmt)).trans (f2.below (by have := f1.size; omega) (by intro k hk; simp only [Option.mem_toList] at hk; exact ((Q1.th u hmu).lt k hk).1)))
    have J2 := J0.put ht hu HA.out j (xk, xn) R1 Q1 Q2 f2
    go_wp2
    go_ret
    exact ⟨rfl, u, hu, J2, b2⟩

set_option maxRecDepth 100000 in
set_option maxHeartbeats 1000000 in
theorem act_setelem_ok {w : World} {B b r : Nat} {lim used rk rn : Int} {sv sr : Value} {T : List Thing} {U : List RT} (J : JI w B b r lim used rk rn sv sr T U) (xk xn rec n : Int) (cs : Value) (i j : Nat) (t : Thing) (ht : T[i]? = some t) (hs : t.sort < 0) (hj : j < t.cells.length) :
    Calls Try.prog 11 #[.pointer (some ⟨b, 0, none⟩), .pointer (some ⟨r, 0, none⟩), actVal 7 2 (i : Int) 0 (j : Int) xk xn rec n cs] w fun e w' => e = .returned (.bool true) ∧ ∃ u, U[i]? = some u ∧ JI w' B b r lim used rk rn sv sr (T.set i (t.put j (xk, xn))) (U.set i (u.put j (xk, xn))) ∧ Below B w w' := by
  unfold actVal
  obtain ⟨u, hu, hab⟩ := J.twin ht
  have HS : Hid (u.sort = t.sort) := (congrArg Prod.fst hab).symm
  have HC : Hid (u.cells = t.cells) := (congrArg Prod.snd hab).symm
  have HA : Hid (t.abs = u.abs) := hab
  clear hab
  have hmt := List.mem_of_getElem? ht
  have hmu := List.mem_of_getElem? hu
  go_enter Try.func11, Try.ntmps11
  go_wp2_with fail
  have A0 : ABox (w.alloc (.cells #[.int .i64 7, .int .i64 2, .int .i64 (i : Int), .int .i64 0, .int .i64 (j : Int), .int .i64 xk, .int .i64 xn, .int .i64 rec, .int .i64 n, cs] 33)) w.heap.size 7 2 (i : Int) 0 (j : Int) xk xn rec n cs := heap_alloc_new w _
  have f0 : Fr [] w (w.alloc (.cells #[.int .i64 7, .int .i64 2, .int .i64 (i : Int), .int .i64 0, .int .i64 (j : Int), .int .i64 xk, .int .i64 xn, .int .i64 rec, .int .i64 n, cs] 33)) := (Fr.refl _ _).alloc _
  have hBw : B ≤ w.heap.size := by have := J.R.base; have := J.R.hb.lt; omega
  generalize w.alloc (.cells #[.int .i64 7, .int .i64 2, .int .i64 (i : Int), .int .i64 0, .int .i64 (j : Int), .int .i64 xk, .int .i64 xn, .int .i64 rec, .int .i64 n, cs] 33) = w0 at *
  generalize w.heap.size = k0 at *
  have J0 := J.frame f0 (by simp)
  have c1 : ∀ w', ABox w' k0 7 2 (i : Int) 0 (j : Int) xk xn rec n cs → w'.cell? ⟨k0, 1, none⟩ = some (.int .i64 2) := fun w' f => f.cells.2.1
  have c2 : ∀ w', ABox w' k0 7 2 (i : Int) 0 (j : Int) xk xn rec n cs → w'.cell? ⟨k0, 2, none⟩ = some (.int .i64 (i : Int)) := fun w' f => f.cells.2.2.1
  have c3 : ∀ w', ABox w' k0 7 2 (i : Int) 0 (j : Int) xk xn rec n cs → w'.cell? ⟨k0, 3, none⟩ = some (.int .i64 0) := fun w' f => f.cells.2.2.2.1
  have c4 : ∀ w', ABox w' k0 7 2 (i : Int) 0 (j : Int) xk xn rec n cs → w'.cell? ⟨k0, 4, none⟩ = some (.int .i64 (j : Int)) := fun w' f => f.cells.2.2.2.2.1
  have c5 : ∀ w', ABox w' k0 7 2 (i : Int) 0 (j : Int) xk xn rec n cs → w'.cell? ⟨k0, 5, none⟩ = some (.int .i64 xk) := fun w' f => f.cells.2.2.2.2.2.1
  have c6 : ∀ w', ABox w' k0 7 2 (i : Int) 0 (j : Int) xk xn rec n cs → w'.cell? ⟨k0, 6, none⟩ = some (.int .i64 xn) := fun w' f => f.cells.2.2.2.2.2.2.1
  have hBw0 : B ≤ w0.heap.size := by have := J0.R.base; have := J0.R.hb.lt; omega
  have b0 : Below B w w0 := f0.below (by have := J.R.base; have := J.R.hb.lt; omega) (by simp)
  have hk0 : k0 ≠ t.rb := fun e => by have h1 := (J0.R.th t hmt).row; unfold ABox at A0; rw [e, h1] at A0; simp at A0
  have C1 := SetElem_ok (J0.frame (Fr.drew (Fr.refl [] w0)) (by simp)).R i t ht hs j hj xk xn
  go_region_held3 (fun w' => ABox w' k0 7 2 (i : Int) 0 (j : Int) xk xn rec n cs)
    (with_reducible (first | assumption | exact A0.fr (Fr.drew (Fr.refl [] _)) (by simp)))
    (first
      | (go_at_call 20; refine C1.mono ?_; rintro e w1 ⟨rfl, R1, f1'⟩; have f1 : Fr [t.rb] w0 w1 := (Fr.drew (Fr.refl _ _)).trans f1'; have Q1 := J0.Q.fr f1 (J0.out_code hmt); have A1 := A0.fr f1 (by simpa using hk0); clear f1')
      | (go_at_call 33; refine (rSetElem_ok Q1 i u hu (by have := J.sorts u hmu; have := HS.out; omega) j (by rw [HC.out]; exact hj) xk xn).mono ?_; rintro e w2 ⟨rfl, Q2, f2⟩; have A2 := A1.fr f2 (by simp only [Option.mem_toList]; exact own_ne (Q1.th u hmu) A1 (by decide))))
  all_goals
    have b2 : Below B w w2 := b0.trans ((f1.below hBw0 (by simp; exact J0.R.rows t hmt)).trans (f2.below (by have := f1.size; omega) (by intro k hk; simp only [Option.mem_toList] at hk; exact ((Q1.th u hmu).lt k hk).1)))
    have J2 := J0.put ht hu HA.out j (xk, xn) R1 Q1 Q2 f2
    go_wp2
    go_ret
    exact ⟨rfl, u, hu, J2, b2⟩
end Go.Proofs.Ytndjoklinccfjaa
