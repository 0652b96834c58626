/-
  copied, Lay and Obj on a heap that New made; conditions: the cells that are handed in can be read, at most 10 to the 12th things.
-/
import Derived.Test.YtkjkpkmmojchiaaGreatDoorHeapM
namespace Go.Proofs.YtkjkpkmmojchiaaGreatDoor
open Go.RowKit

/-- The values xs lie at a slice's place. -/
def Lies (w : World) (a : Option Addr) (xs : List (Int × Int)) : Prop := 0 < xs.length → ∃ ad, a = some ad ∧ ∀ j u, (flat xs)[j]? = some u → w.cell? (ad.add j) = some u

theorem flat_one : ∀ (xs : List (Int × Int)) (u : Value), u ∈ flat xs → u.oneCell' = true
  | [], _, h => by simp [flat] at h
  | x :: r, u, h => by
    simp only [flat, List.mem_cons] at h
    rcases h with rfl | rfl | h
    · rfl
    · rfl
    · exact flat_one r u h

theorem run_copy_rows {P : Program} (w : World) (dT sT ty elem : TypeId) (size : Nat) (g n dCap : Nat) (a : Addr) (sCap : Nat) (cur : Array Value) (t : TypeId) (cs : List Value)
    (hu : P.underlying dT = some (.slice elem)) (hs : (P.info? elem).map (·.size) = some size)
    (hg : w.heap[g]? = some (.cells cur t (0, 0))) (hn : cs.length = n * size)
    (hsrc : ∀ j v, cs[j]? = some v → w.cell? (a.add j) = some v) (hfit : cs.length = cur.size) (h1 : ∀ v ∈ cs, v.oneCell' = true) :
    (Builtin.copy_ #[dT, sT] ty #[.slice (some ⟨g, 0, none⟩) n dCap, .slice (some a) n sCap]).run P w = .ok (goInt n) (w.setRow g cs.toArray) := by
  have hl := run_loadCells_list (P := P) w a cs hsrc
  have hst := run_storeCells_at P g 0 t cs 0 cur w hg (by simp; omega) h1
  have hcut : (cur.toList.take 0 ++ cs ++ cur.toList.drop cs.length).toArray = cs.toArray := by
    rw [List.drop_of_length_le (by simp; omega)]
    simp
  simp only [Nat.add_zero, Nat.zero_add, hcut] at hst
  cases hq : P.info? elem with
  | none => simp [hq] at hs
  | some i =>
    have hi : i.size = size := by simpa [hq] using hs
    simp [Builtin.copy_, run_underlying hu, Builtin.lenOf, Builtin.firstCells, sizeOf, typeInfo, hq, hi, ← hn, hl, hst]

theorem size30 : (Tryz.prog.info? 33).map (·.size) = some 2 := by kernel_rfl

/-- The world behind copied. -/
theorem copy_world (w : World) (xs : List (Int × Int)) : ∃ w', (w.alloc (.cells (flat (List.replicate xs.length ((0 : Int), (0 : Int)))).toArray 33)).setRow w.heap.size (flat xs).toArray = w' ∧ w'.heap[w.heap.size]? = some (.cells (flat xs).toArray 33 (0, 0)) ∧ w'.heap.size = w.heap.size + 1 ∧ Fr [] w w' := by
  refine ⟨_, rfl, setRow_heap _ _ _ _ _ _ (heap_alloc_new w _), by simp [World.setRow], rfl, rfl, rfl, by simp [World.setRow], fun k hk _ => ?_⟩
  rw [setRow_other _ _ _ _ (by omega)]
  exact Below.heap_alloc _ _ _ hk

theorem copy_run (w : World) (xs : List (Int × Int)) (a : Option Addr) (c : Nat) (h : Lies w a xs) (h0 : xs.length = 0 → a = none → c = 0) (ty : TypeId) :
    ∃ w', (Builtin.copy_ #[55, 55] ty #[.slice (some ⟨w.heap.size, 0, none⟩) xs.length xs.length, .slice a xs.length c]).run Tryz.prog (w.alloc (.cells (flat (List.replicate xs.length ((0 : Int), (0 : Int)))).toArray 33)) = .ok (goInt xs.length) w' ∧ w'.heap[w.heap.size]? = some (.cells (flat xs).toArray 33 (0, 0)) ∧ w'.heap.size = w.heap.size + 1 ∧ Fr [] w w' := by
  by_cases hp : 0 < xs.length
  · obtain ⟨ad, rfl, hc⟩ := h hp
    obtain ⟨w', e, h1, h2, h3⟩ := copy_world w xs
    refine ⟨w', ?_, h1, h2, h3⟩
    rw [← e]
    refine run_copy_rows _ 55 55 ty 33 2 _ xs.length xs.length ad c _ 33 (flat xs) under31 size30 (heap_alloc_new w _) (flat_length xs) ?_ ?_ (flat_one xs)
    · intro j u hj
      have hcj := hc j u hj
      have hlt := World.block_lt_of_cell? w _ hcj
      rw [World.cell?_of_block (w := w) (Below.heap_alloc w _ _ hlt)]
      exact hcj
    · simp [flat_length]
  · obtain rfl : xs = [] := List.eq_nil_of_length_eq_zero (by omega)
    refine ⟨w.alloc (.cells #[] 33), ?_, heap_alloc_new w _, by simp, (Fr.refl _ _).alloc _⟩
    cases a with
    | none =>
      have := h0 rfl rfl
      subst this
      exact run_copy_nil (P := Tryz.prog) _ 55 55 ty 33 _ 0 0 under31 (by rw [size30]; rfl)
    | some ad =>
      have e := run_copy_rows (P := Tryz.prog) (w.alloc (.cells #[] 33)) 55 55 ty 33 2 w.heap.size 0 0 ad c #[] 33 [] under31 size30 (heap_alloc_new w _) (by simp) (by simp) (by simp) (by simp)
      rw [show (w.alloc (.cells #[] 33)).setRow w.heap.size #[] = w.alloc (.cells #[] 33) from setRow_self _ _ _ 33 (0, 0) (heap_alloc_new w _)] at e
      exact e

set_option maxHeartbeats 400000 in
theorem copied_any (w : World) (xs : List (Int × Int)) (a : Option Addr) (c : Nat) (h : Lies w a xs) (h0 : xs.length = 0 → a = none → c = 0) (hn : xs.length ≤ 10000000) :
    Calls Tryz.prog 84 #[.slice a xs.length c] w fun e w' => e = .returned (.slice (some ⟨w.heap.size, 0, none⟩) xs.length xs.length) ∧ w'.heap[w.heap.size]? = some (.cells (flat xs).toArray 33 (0, 0)) ∧ w'.heap.size = w.heap.size + 1 ∧ Fr [] w w' := by
  have hmk := make_run xs.length hn
  obtain ⟨w', hr, q1, q2, q3⟩ := copy_run w xs a c h h0 3
  go_enter Tryz.func84, Tryz.ntmps84
  go_wp2
  go_ret
  exact ⟨rfl, q1, q2, q3⟩

theorem Lies.fr {S : List Nat} {w w' : World} {a : Option Addr} {xs : List (Int × Int)} (h : Lies w a xs) (f : Fr S w w') (hS : ∀ ad, a = some ad → ad.block ∉ S) : Lies w' a xs := by
  intro hp
  obtain ⟨ad, e, hc⟩ := h hp
  refine ⟨ad, e, fun j u hj => ?_⟩
  have hcj := hc j u hj
  have hlt := World.block_lt_of_cell? w _ hcj
  have hb : (ad.add j).block = ad.block := by unfold Addr.add; split <;> rfl
  rw [World.cell?_of_block (w := w) (f.block _ hlt (by rw [hb]; exact hS ad e))]
  exact hcj

theorem TAt.mk' {w : World} (t : Thing) (m : Nat) (hm : w.heap.size = m) (htb : t.tb = m) (hr : w.heap[t.rb]? = some (.cells (flat t.cells).toArray 33 (0, 0))) (o : Obj) (ho : t.body = o) : TAt (w.alloc o) t := by
  subst hm
  subst ho
  refine ⟨by rw [htb]; exact heap_alloc_new w _, ?_⟩
  rw [Below.heap_alloc _ _ _ (Array.getElem?_eq_some_iff.1 hr).1]
  exact hr

theorem lay_world {w w2 : World} {B b : Nat} {lim used : Int} {sv : Value} {rk rn : Int} {T : List Thing} (R : Rep w B b lim used sv rk rn T) {o1 : Obj} {xs : List (Int × Int)}
    (q1 : w2.heap[(w.alloc o1).heap.size]? = some (.cells (flat xs).toArray 33)) (q2 : w2.heap.size = (w.alloc o1).heap.size + 1) (q3 : Fr [] (w.alloc o1) w2) (t : Thing) (h1 : t.rb = w.heap.size + 1) (h2 : t.tb = w.heap.size + 1 + 1) (h3 : t.cells = xs) (o3 : Obj) (ho3 : t.body = o3) :
    w2.heap.size = w.heap.size + 1 + 1 ∧ Rep (w2.alloc o3) B b lim used sv rk rn T ∧ TAt (w2.alloc o3) t ∧ t.rb ∉ T.map Thing.rb ∧ B ≤ t.rb ∧ Fr (b :: sv.ownBlock.toList) w (w2.alloc o3) ∧ (w2.alloc o3).heap[w.heap.size]? = some o1 := by
  have s1 : (w.alloc o1).heap.size = w.heap.size + 1 := by simp
  rw [s1] at q1 q2
  have f : Fr [] w w2 := ((Fr.refl _ _).alloc o1).trans q3
  refine ⟨q2, R.frame (f.alloc o3) (by simp), TAt.mk' t (w.heap.size + 1 + 1) q2 h2 (by rw [h1, h3]; exact q1) o3 ho3, ?_, ?_, (f.alloc o3).sub (by simp), ?_⟩
  · intro hm
    have := R.lt t.rb (by unfold foot; simp only [List.mem_cons, List.mem_append]; exact .inr (.inr hm))
    omega
  · have := R.base
    have := R.hb.lt
    omega
  · rw [Below.heap_alloc _ _ _ (by omega), q3.block _ (by omega) (by simp)]
    exact heap_alloc_new w o1

set_option maxHeartbeats 400000 in
theorem Obj_no {w : World} {B b : Nat} {lim used : Int} {sv : Value} {rk rn : Int} {T : List Thing} (R : Rep w B b lim used sv rk rn T) (k n : Int) (h : bad T k n) :
    Calls Tryz.prog 47 #[.pointer (some ⟨b, 0, none⟩), .agg #[.int .i64 k, .int .i64 n]] w fun e w' => e = .returned (.tuple #[.agg #[.int .i64 0, .slice none 0 0], .bool false]) ∧ Fr [] w w' := by
  have hA : ∀ o o', Rep ((w.alloc o).alloc o') B b lim used sv rk rn T := fun o o' => R.frame (S := []) (((Fr.refl _ _).alloc o).alloc o') (by simp)
  have hF := fun o o' => find_bad (hA o o') k n h
  have ht := trapOf_ne k
  generalize trapOf k = X at *
  go_enter Tryz.func47, Tryz.ntmps47
  go_wp2_with fail
  refine (hF _ _).mono ?_
  rintro e w' ⟨rfl, hfr⟩
  have hL : w'.heap[w.heap.size + 1]? = some (.cells #[.int .i64 0, .slice none 0 0] 103) := by
    rw [hfr.block _ (by simp) (by simp)]
    exact blk2 w _ _
  have hl0 : w'.cell? ⟨w.heap.size + 1, 0, none⟩ = some (.int .i64 0) := by simp [World.cell?, hL]
  have hl1 : w'.cell? ⟨w.heap.size + 1, 1, none⟩ = some (.slice none 0 0) := by simp [World.cell?, hL]
  have hlf : ∀ i, w'.frozen? ⟨w.heap.size + 1, i, none⟩ = false := by intro i; simp [World.frozen?, hL]
  clear hF hA
  go_wp2
  refine bodyPost_ret (v := .tuple #[.agg #[.int .i64 0, .slice none 0 0], .bool false]) (by simp [results, Tryz.results47, go_sem, hl0, hl1]) rfl ⟨rfl, ?_⟩
  exact Fr.setCell (Fr.setCell ((((Fr.refl _ _).alloc _).alloc _).trans hfr) (.inr (by simp)) _) (.inr (by simp)) _

theorem res40 {w : World} {k : Nat} (h : w.heap[k]? = some (.cells #[.int .i64 0, .slice none 0 0] 103)) : w.cell? ⟨k, 0, none⟩ = some (.int .i64 0) ∧ w.cell? ⟨k, 1, none⟩ = some (.slice none 0 0) ∧ ∀ i, w.frozen? ⟨k, i, none⟩ = false :=
  ⟨by simp [World.cell?, h], by simp [World.cell?, h], fun i => by simp [World.frozen?, h]⟩

theorem TAt.lies {w : World} {t : Thing} (h : TAt w t) : Lies w (some ⟨t.rb, 0, none⟩) t.cells := by
  intro _
  refine ⟨_, rfl, fun j u hj => ?_⟩
  have hadd : (⟨t.rb, 0, none⟩ : Addr).add j = ⟨t.rb, j, none⟩ := by unfold Addr.add; split <;> simp_all
  rw [hadd]
  simp [World.cell?, h.row, hj]

set_option maxHeartbeats 400000 in
theorem Obj_rec {w : World} {B b : Nat} {lim used : Int} {sv : Value} {rk rn : Int} {T : List Thing} (R : Rep w B b lim used sv rk rn T) (i : Nat) (t : Thing) (ht : T[i]? = some t) (hs : 0 ≤ t.sort) (hn : t.cells.length ≤ 10000000) :
    Calls Tryz.prog 47 #[.pointer (some ⟨b, 0, none⟩), .agg #[.int .i64 2, .int .i64 (i : Int)]] w fun e w' => ∃ g, e = .returned (.tuple #[.agg #[.int .i64 t.sort, .slice (some ⟨g, 0, none⟩) t.cells.length t.cells.length], .bool true]) ∧ Fr [] w w' ∧ w.heap.size ≤ g ∧ w'.heap[g]? = some (.cells (flat t.cells).toArray 33 (0, 0)) := by
  have hA : ∀ o o', Rep ((w.alloc o).alloc o') B b lim used sv rk rn T := fun o o' => R.frame (S := []) (((Fr.refl _ _).alloc o).alloc o') (by simp)
  have hTA := R.th t (List.mem_of_getElem? ht)
  have hm := meth85 t.tb
  go_enter Tryz.func47, Tryz.ntmps47
  go_wp2_with fail
  refine (find_ok (hA _ _) i t ht).mono ?_
  rintro e w' ⟨rfl, hfr⟩
  have hTw := hTA.later ((((Fr.refl _ _).alloc _).alloc _).trans hfr)
  have h1 := hTw.recd hs
  rw [val_rec hs]
  have hz : w.heap.size + 1 < w'.heap.size := by have := hfr.size; simp at this; omega
  have hL : w'.heap[w.heap.size + 1]? = some (.cells #[.int .i64 0, .slice none 0 0] 103) := by
    rw [hfr.block _ (by simp) (by simp)]
    exact blk2 w _ _
  have hFr := (((Fr.refl [] w).alloc _).alloc _).trans hfr
  go_wp2_with (first | (go_at_call 83; refine (sort_rec _ _ _ h1.2).mono ?_; rintro e w' ⟨rfl, rfl⟩) | (go_at_call 195; refine (view_any _ _ _ _ h1.1).mono ?_; rintro e w' ⟨rfl, rfl⟩) | (go_at_call 84; refine (copied_any _ t.cells _ _ hTw.lies (by simp) hn).mono ?_; rintro e w3 ⟨rfl, q1, q2, q3⟩; have ⟨hl0, hl1, hlf⟩ := res40 ((q3.block _ hz (by simp)).trans hL)))
  have hFr3 := hFr.trans q3
  refine bodyPost_ret (v := .tuple #[.agg #[.int .i64 t.sort, .slice (some ⟨w'.heap.size, 0, none⟩) t.cells.length t.cells.length], .bool true]) (by simp [results, Tryz.results47, go_sem, hl0, hl1]) rfl ⟨w'.heap.size, rfl, ?_, by omega, ?_⟩
  · exact Fr.setCell (Fr.setCell hFr3 (.inr (by simp)) _) (.inr (by simp)) _
  · rw [Below.heap_setCell _ _ _ _ (by simp; omega), Below.heap_setCell _ _ _ _ (by simp; omega)]
    exact q1

set_option maxHeartbeats 400000 in
theorem Obj_arr {w : World} {B b : Nat} {lim used : Int} {sv : Value} {rk rn : Int} {T : List Thing} (R : Rep w B b lim used sv rk rn T) (i : Nat) (t : Thing) (ht : T[i]? = some t) (hs : t.sort < 0) (hn : t.cells.length ≤ 10000000) :
    Calls Tryz.prog 47 #[.pointer (some ⟨b, 0, none⟩), .agg #[.int .i64 2, .int .i64 (i : Int)]] w fun e w' => ∃ g, e = .returned (.tuple #[.agg #[.int .i64 (-1), .slice (some ⟨g, 0, none⟩) t.cells.length t.cells.length], .bool true]) ∧ Fr [] w w' ∧ w.heap.size ≤ g ∧ w'.heap[g]? = some (.cells (flat t.cells).toArray 33 (0, 0)) := by
  have hA : ∀ o o', Rep ((w.alloc o).alloc o') B b lim used sv rk rn T := fun o o' => R.frame (S := []) (((Fr.refl _ _).alloc o).alloc o') (by simp)
  have hTA := R.th t (List.mem_of_getElem? ht)
  have hm := meth90 t.tb
  go_enter Tryz.func47, Tryz.ntmps47
  go_wp2_with fail
  refine (find_ok (hA _ _) i t ht).mono ?_
  rintro e w' ⟨rfl, hfr⟩
  have hTw := hTA.later ((((Fr.refl _ _).alloc _).alloc _).trans hfr)
  have h1 := hTw.arr hs
  rw [val_arr hs]
  have hz : w.heap.size + 1 < w'.heap.size := by have := hfr.size; simp at this; omega
  have hL : w'.heap[w.heap.size + 1]? = some (.cells #[.int .i64 0, .slice none 0 0] 103) := by
    rw [hfr.block _ (by simp) (by simp)]
    exact blk2 w _ _
  have hFr := (((Fr.refl [] w).alloc _).alloc _).trans hfr
  go_wp2_with (first | (go_at_call 83; refine (sort_arr _ _).mono ?_; rintro e w' ⟨rfl, rfl⟩) | (go_at_call 195; refine (view_any _ _ _ _ h1).mono ?_; rintro e w' ⟨rfl, rfl⟩) | (go_at_call 84; refine (copied_any _ t.cells _ _ hTw.lies (by simp) hn).mono ?_; rintro e w3 ⟨rfl, q1, q2, q3⟩; have ⟨hl0, hl1, hlf⟩ := res40 ((q3.block _ hz (by simp)).trans hL)))
  have hFr3 := hFr.trans q3
  refine bodyPost_ret (v := .tuple #[.agg #[.int .i64 (-1), .slice (some ⟨w'.heap.size, 0, none⟩) t.cells.length t.cells.length], .bool true]) (by simp [results, Tryz.results47, go_sem, hl0, hl1]) rfl ⟨w'.heap.size, rfl, ?_, by omega, ?_⟩
  · exact Fr.setCell (Fr.setCell hFr3 (.inr (by simp)) _) (.inr (by simp)) _
  · rw [Below.heap_setCell _ _ _ _ (by simp; omega), Below.heap_setCell _ _ _ _ (by simp; omega)]
    exact q1

end Go.Proofs.YtkjkpkmmojchiaaGreatDoor
