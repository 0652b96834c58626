/-
  Field and SetField on a heap that New made, for every value, sort and place; no condition.
-/
import Derived.Test.YtkjkpkmmojchiaaGreatDoorHeapH
namespace Go.Proofs.YtkjkpkmmojchiaaGreatDoor
open Go.RowKit

theorem flat_length : ∀ cs : List (Int × Int), (flat cs).length = cs.length * 2
  | [] => rfl
  | _ :: r => by simp only [flat, List.length_cons, flat_length r]; omega

theorem flat_at : ∀ (cs : List (Int × Int)) (a : Nat) (x : Int × Int), cs[a]? = some x → (flat cs)[a * 2]? = some (.int .i64 x.1) ∧ (flat cs)[a * 2 + 1]? = some (.int .i64 x.2)
  | [], _, _, h => by simp at h
  | y :: r, 0, x, h => by simp at h; subst h; exact ⟨rfl, rfl⟩
  | y :: r, a + 1, x, h => by
    have ih := flat_at r a x (by simpa using h)
    rw [show (a + 1) * 2 = a * 2 + 1 + 1 from by omega]
    simpa [flat] using ih

theorem flat_set : ∀ (cs : List (Int × Int)) (a : Nat) (x : Int × Int), flat (cs.set a x) = ((flat cs).set (a * 2) (.int .i64 x.1)).set (a * 2 + 1) (.int .i64 x.2)
  | [], _, _ => by simp [flat]
  | y :: r, 0, x => by simp [flat]
  | y :: r, a + 1, x => by
    have ih := flat_set r a x
    rw [show (a + 1) * 2 = a * 2 + 1 + 1 from by omega]
    simp [flat, ih]

theorem TAt.cells {w : World} {t : Thing} (h : TAt w t) {a : Nat} {x : Int × Int} (hx : t.cells[a]? = some x) : w.cell? ⟨t.rb, a * 2, none⟩ = some (.int .i64 x.1) ∧ w.cell? ⟨t.rb, a * 2 + 1, none⟩ = some (.int .i64 x.2) := by
  have h1 := h.row
  have h2 := flat_at t.cells a x hx
  constructor
  · simp [World.cell?, h1, h2.1]
  · simp [World.cell?, h1, h2.2]

theorem TAt.fz {w : World} {t : Thing} (h : TAt w t) (i : Nat) : w.frozen? ⟨t.rb, i, none⟩ = false := by simp [World.frozen?, h.row]

/-- Thing t with x in its cell a. -/
def Thing.put (t : Thing) (a : Nat) (x : Int × Int) : Thing := { t with cells := t.cells.set a x }

theorem Thing.put_val (t : Thing) (a : Nat) (x : Int × Int) : (t.put a x).val = t.val := rfl
theorem Thing.put_body (t : Thing) (a : Nat) (x : Int × Int) : (t.put a x).body = t.body := by simp [Thing.body, Thing.put, Thing.sl]

theorem Rep.put {w : World} {B b : Nat} {lim used : Int} {sv : Value} {rk rn : Int} {T : List Thing} (R : Rep w B b lim used sv rk rn T) {i : Nat} {t : Thing} (ht : T[i]? = some t) (a : Nat) (x : Int × Int) :
    Rep ((w.setCell ⟨t.rb, a * 2, none⟩ (.int .i64 x.1)).setCell ⟨t.rb, a * 2 + 1, none⟩ (.int .i64 x.2)) B b lim used sv rk rn (T.set i (t.put a x)) := by
  have hm := List.mem_of_getElem? ht
  have hi : i < T.length := (List.getElem?_eq_some_iff.1 ht).1
  have hti : T[i] = t := (List.getElem?_eq_some_iff.1 ht).2
  have hTA := R.th t hm
  have f : Fr [t.rb] w ((w.setCell ⟨t.rb, a * 2, none⟩ (.int .i64 x.1)).setCell ⟨t.rb, a * 2 + 1, none⟩ (.int .i64 x.2)) := Fr.setCell (Fr.setCell (Fr.refl _ _) (.inl (by simp)) _) (.inl (by simp)) _
  have hnew : ((w.setCell ⟨t.rb, a * 2, none⟩ (.int .i64 x.1)).setCell ⟨t.rb, a * 2 + 1, none⟩ (.int .i64 x.2)).heap[t.rb]? = some (.cells (flat (t.cells.set a x)).toArray 33 (0, 0)) := by
    simp [World.setCell, Array.getElem?_modify, hTA.row, flat_set]
  have hmap : (T.set i (t.put a x)).map Thing.rb = T.map Thing.rb := by
    rw [List.map_set]
    show (T.map Thing.rb).set i t.rb = _
    rw [← hti, ← List.getElem_map (f := Thing.rb) (h := by simpa using hi), List.set_getElem_self]
  have hmapv : (T.set i (t.put a x)).map Thing.val = T.map Thing.val := by
    rw [List.map_set, Thing.put_val]
    rw [← hti, ← List.getElem_map (f := Thing.val) (h := by simpa using hi), List.set_getElem_self]
  refine ⟨R.hb.fr f (by simpa using (R.hb.ne_of hTA.row (by decide)).symm), ?_, ?_, by rw [hmap]; exact R.sep, R.base, ?_⟩
  · rw [hmapv, List.length_set]
    refine ⟨R.row.1, ?_⟩
    rcases R.row.2 with e | ⟨g, cap, cur, e, r1, hgg, r2⟩
    · exact .inl e
    · have hlt := (Array.getElem?_eq_some_iff.1 hgg).1
      refine .inr ⟨g, cap, cur, e, r1, (f.block g hlt ?_).trans hgg, r2⟩
      simp
      rintro rfl
      rw [hTA.row] at hgg
      simp at hgg
  · intro u hu
    obtain ⟨j, hj, hju⟩ := List.getElem_of_mem hu
    rw [List.length_set] at hj
    rw [List.getElem_set] at hju
    split at hju
    · subst hju
      refine ⟨?_, hnew⟩
      rw [Thing.put_body]
      obtain ⟨c, e, h1, _, _, h4⟩ := hTA.tb_ne
      refine (f.block t.tb (Array.getElem?_eq_some_iff.1 h1).1 ?_).trans hTA.own
      simp
      intro he
      rw [he, hTA.row] at h1
      simp at h1
      exact h4 h1.2.symm
    · rename_i hne
      have hum : u ∈ T := by rw [← hju]; exact List.getElem_mem _
      have hTu := R.th u hum
      obtain ⟨c, e, h1, _, _, h4⟩ := hTu.tb_ne
      refine hTu.fr f ?_ ?_
      · simp
        intro he
        rw [he, hTA.row] at h1
        simp at h1
        exact h4 h1.2.symm
      · simp
        intro he
        have hnd := List.pairwise_iff_getElem.1 R.sep
        have hij : i < j ∨ j < i := by omega
        rcases hij with hij | hij
        · have := hnd i j (by simpa using hi) (by simpa using hj) hij
          simp [hti, hju, he] at this
        · have := hnd j i (by simpa using hj) (by simpa using hi) hij
          simp [hti, hju, he] at this
  · intro u hu
    obtain ⟨j, hj, hju⟩ := List.getElem_of_mem hu
    rw [List.length_set] at hj
    rw [List.getElem_set] at hju
    split at hju
    · subst hju
      exact R.rows t hm
    · exact R.rows u (by rw [← hju]; exact List.getElem_mem _)

set_option maxHeartbeats 400000 in
theorem Field_no {w : World} {B b : Nat} {lim used : Int} {sv : Value} {rk rn : Int} {T : List Thing} (R : Rep w B b lim used sv rk rn T) (k n r a : Int) (h : fieldTrap (T.map Thing.abs) k n r a ≠ 0) :
    Calls Tryz.prog 137 #[.pointer (some ⟨b, 0, none⟩), .agg #[.int .i64 k, .int .i64 n], .int .i64 r, .int .i64 a] w fun e w' => e = .returned (.tuple #[.agg #[.int .i64 0, .int .i64 0], .int .i64 (fieldTrap (T.map Thing.abs) k n r a)]) ∧ Fr [] w w' := by
  have hA : ∀ o o', Rep ((w.alloc o).alloc o') B b lim used sv rk rn T := fun o o' => R.frame (S := []) (((Fr.refl _ _).alloc o).alloc o') (by simp)
  have hF := fun o o' => field_no (hA o o') k n r a h
  generalize fieldTrap (T.map Thing.abs) k n r a = X at *
  have hX : (X != 0) = true := by rw [bne_iff_ne]; exact h
  go_enter Tryz.func137, Tryz.ntmps137
  go_wp2_with fail
  refine (hF _ _).mono ?_
  rintro e w' ⟨rfl, hfr⟩
  have hL : w'.heap[w.heap.size + 1]? = some (.cells #[.int .i64 0, .int .i64 0] 33) := by
    rw [hfr.block _ (by simp) (by simp)]
    exact blk2 w _ _
  have hl0 : w'.cell? ⟨w.heap.size + 1, 0, none⟩ = some (.int .i64 0) := by simp [World.cell?, hL]
  have hl1 : w'.cell? ⟨w.heap.size + 1, 1, none⟩ = some (.int .i64 0) := by simp [World.cell?, hL]
  have hlf : ∀ i, w'.frozen? ⟨w.heap.size + 1, i, none⟩ = false := by intro i; simp [World.frozen?, hL]
  clear hF hA
  go_wp2
  refine bodyPost_ret (v := .tuple #[.agg #[.int .i64 0, .int .i64 0], .int .i64 X]) (by simp [results, Tryz.results137, go_sem, hl0, hl1]) rfl ⟨rfl, ?_⟩
  exact Fr.setCell (Fr.setCell ((((Fr.refl _ _).alloc _).alloc _).trans hfr) (.inr (by simp)) _) (.inr (by simp)) _

set_option maxHeartbeats 400000 in
theorem Field_ok {w : World} {B b : Nat} {lim used : Int} {sv : Value} {rk rn : Int} {T : List Thing} (R : Rep w B b lim used sv rk rn T) (i : Nat) (t : Thing) (ht : T[i]? = some t) (a : Nat) (hs : 0 ≤ t.sort) (x : Int × Int) (ha : t.cells[a]? = some x) :
    Calls Tryz.prog 137 #[.pointer (some ⟨b, 0, none⟩), .agg #[.int .i64 2, .int .i64 (i : Int)], .int .i64 t.sort, .int .i64 (a : Int)] w fun e w' => e = .returned (.tuple #[.agg #[.int .i64 x.1, .int .i64 x.2], .int .i64 0]) ∧ Fr [] w w' := by
  have hA : ∀ o o', Rep ((w.alloc o).alloc o') B b lim used sv rk rn T := fun o o' => R.frame (S := []) (((Fr.refl _ _).alloc o).alloc o') (by simp)
  have hF := fun o o' => field_ok (hA o o') i t ht a hs (List.getElem?_eq_some_iff.1 ha).1
  have hTA := R.th t (List.mem_of_getElem? ht)
  go_enter Tryz.func137, Tryz.ntmps137
  go_wp2_with fail
  refine (hF _ _).mono ?_
  rintro e w' ⟨rfl, hfr⟩
  have hL : w'.heap[w.heap.size + 1]? = some (.cells #[.int .i64 0, .int .i64 0] 33) := by
    rw [hfr.block _ (by simp) (by simp)]
    exact blk2 w _ _
  have hl0 : w'.cell? ⟨w.heap.size + 1, 0, none⟩ = some (.int .i64 0) := by simp [World.cell?, hL]
  have hl1 : w'.cell? ⟨w.heap.size + 1, 1, none⟩ = some (.int .i64 0) := by simp [World.cell?, hL]
  have hlf : ∀ i, w'.frozen? ⟨w.heap.size + 1, i, none⟩ = false := by intro i; simp [World.frozen?, hL]
  have hx := (hTA.later ((((Fr.refl _ _).alloc _).alloc _).trans hfr)).cells ha
  have hx1 := hx.1
  have hx2 := hx.2
  clear hF hA hx
  go_wp2
  refine bodyPost_ret (v := .tuple #[.agg #[.int .i64 x.1, .int .i64 x.2], .int .i64 0]) (by simp [results, Tryz.results137, go_sem, hl0, hl1]) rfl ⟨rfl, ?_⟩
  exact Fr.setCell (Fr.setCell ((((Fr.refl _ _).alloc _).alloc _).trans hfr) (.inr (by simp)) _) (.inr (by simp)) _

set_option maxHeartbeats 400000 in
theorem SetField_no {w : World} {B b : Nat} {lim used : Int} {sv : Value} {rk rn : Int} {T : List Thing} (R : Rep w B b lim used sv rk rn T) (k n r a x1 x2 : Int) (h : fieldTrap (T.map Thing.abs) k n r a ≠ 0) :
    Calls Tryz.prog 139 #[.pointer (some ⟨b, 0, none⟩), .agg #[.int .i64 k, .int .i64 n], .int .i64 r, .int .i64 a, .agg #[.int .i64 x1, .int .i64 x2]] w fun e w' => e = .returned (.int .i64 (fieldTrap (T.map Thing.abs) k n r a)) ∧ Fr [] w w' := by
  have hA : ∀ o o', Rep ((w.alloc o).alloc o') B b lim used sv rk rn T := fun o o' => R.frame (S := []) (((Fr.refl _ _).alloc o).alloc o') (by simp)
  have hF := fun o o' => field_no (hA o o') k n r a h
  generalize fieldTrap (T.map Thing.abs) k n r a = X at *
  have hX : (X == 0) = false := by simpa using h
  go_enter Tryz.func139, Tryz.ntmps139
  go_wp2_with fail
  refine (hF _ _).mono ?_
  rintro e w' ⟨rfl, hfr⟩
  clear hF hA
  go_wp2
  go_ret
  exact ⟨rfl, (((Fr.refl _ _).alloc _).alloc _).trans hfr⟩

set_option maxHeartbeats 400000 in
theorem SetField_ok {w : World} {B b : Nat} {lim used : Int} {sv : Value} {rk rn : Int} {T : List Thing} (R : Rep w B b lim used sv rk rn T) (i : Nat) (t : Thing) (ht : T[i]? = some t) (a : Nat) (hs : 0 ≤ t.sort) (ha : a < t.cells.length) (x1 x2 : Int) :
    Calls Tryz.prog 139 #[.pointer (some ⟨b, 0, none⟩), .agg #[.int .i64 2, .int .i64 (i : Int)], .int .i64 t.sort, .int .i64 (a : Int), .agg #[.int .i64 x1, .int .i64 x2]] w fun e w' => e = .returned (.int .i64 0) ∧
      Rep w' B b lim used sv rk rn (T.set i (t.put a (x1, x2))) ∧ Fr [t.rb] w w' := by
  have hA : ∀ o o', Rep ((w.alloc o).alloc o') B b lim used sv rk rn T := fun o o' => R.frame (S := []) (((Fr.refl _ _).alloc o).alloc o') (by simp)
  have hF := fun o o' => field_ok (hA o o') i t ht a hs ha
  have hTA := R.th t (List.mem_of_getElem? ht)
  go_enter Tryz.func139, Tryz.ntmps139
  go_wp2_with fail
  refine (hF _ _).mono ?_
  rintro e w' ⟨rfl, hfr⟩
  have hL : w'.heap[w.heap.size + 1]? = some (.cells #[.int .i64 x1, .int .i64 x2] 33) := by
    rw [hfr.block _ (by simp) (by simp)]
    exact blk2 w _ _
  have hl0 : w'.cell? ⟨w.heap.size + 1, 0, none⟩ = some (.int .i64 x1) := by simp [World.cell?, hL]
  have hl1 : w'.cell? ⟨w.heap.size + 1, 1, none⟩ = some (.int .i64 x2) := by simp [World.cell?, hL]
  have hTw := hTA.later ((((Fr.refl _ _).alloc _).alloc _).trans hfr)
  have hx := hTw.cells (List.getElem?_eq_getElem ha)
  have hx1 := hx.1
  have hx2 := hx.2
  have hfz := hTw.fz
  have R' := (hA _ _).frame hfr (by simp)
  clear hF hx hTw
  go_wp2
  go_ret
  refine ⟨rfl, R'.put ht a (x1, x2), ?_⟩
  exact Fr.setCell (Fr.setCell ((((Fr.refl _ _).alloc _).alloc _).trans (hfr.sub (by simp))) (.inl (by simp)) _) (.inl (by simp)) _
end Go.Proofs.YtkjkpkmmojchiaaGreatDoor
