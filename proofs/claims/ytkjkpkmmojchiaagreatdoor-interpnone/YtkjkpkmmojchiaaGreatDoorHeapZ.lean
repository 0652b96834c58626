/-
  The reference's Field and SetField, for every value, sort and place; no condition.
-/
import Derived.Test.YtkjkpkmmojchiaaGreatDoorHeapY
namespace Go.Proofs.YtkjkpkmmojchiaaGreatDoor
open Go.RowKit

theorem badN_or (U : List RT) (k n : Int) : badN U.length k n ∨ ∃ (i : Nat) (u : RT), k = 2 ∧ n = i ∧ U[i]? = some u := by
  by_cases h : k = 2 ∧ 0 ≤ n ∧ n < U.length
  · right
    have hi : n.toNat < U.length := by omega
    exact ⟨n.toNat, U[n.toNat], h.1, by omega, List.getElem?_eq_getElem hi⟩
  · exact .inl h

theorem rfieldTrap_bad {U : List RT} {k n : Int} (h : badN U.length k n) (h1 : k ≠ 1) (r a : Int) : fieldTrap (U.map RT.abs) k n r a = 6 := by
  unfold fieldTrap
  rw [if_neg h1]
  split
  · have : (U.map RT.abs)[n.toNat]? = none := by
      rw [List.getElem?_eq_none_iff, List.length_map]
      unfold badN at h
      omega
    rw [this]
  · rfl

theorem rfieldTrap_at {U : List RT} {i : Nat} {u : RT} (hu : U[i]? = some u) (r a : Int) : fieldTrap (U.map RT.abs) 2 (i : Int) r a = if 0 ≤ r ∧ u.sort = r ∧ 0 ≤ a ∧ a < u.cells.length then 0 else 6 := by
  unfold fieldTrap
  rw [if_neg (by omega), if_pos (by omega), Int.toNat_natCast, List.getElem?_map, hu]
  rfl

theorem rfield_no {w : World} {B b : Nat} {lim used : Int} {sv : Value} {rk rn : Int} {U : List RT} (R : RRep w B b lim used sv rk rn U) (k n r a : Int) (h : fieldTrap (U.map RT.abs) k n r a ≠ 0) :
    Calls Tryz.prog 148 #[.pointer (some ⟨b, 0, none⟩), .agg #[.int .i64 k, .int .i64 n], .int .i64 r, .int .i64 a] w fun e w' => e = .returned (.tuple #[.int .i64 0, .int .i64 (fieldTrap (U.map RT.abs) k n r a)]) ∧ Fr [] w w' := by
  by_cases h1 : k = 1
  · subst h1
    have e : fieldTrap (U.map RT.abs) 1 n r a = 3 := by unfold fieldTrap; rw [if_pos rfl]
    rw [e]
    exact rfield_null n r a
  · rcases badN_or U k n with hb | ⟨i, u, rfl, rfl, hu⟩
    · rw [rfieldTrap_bad hb h1]
      exact rfield_bad R k n h1 hb r a
    · rw [rfieldTrap_at hu] at h ⊢
      split at h
      · omega
      · rename_i hc
        rw [if_neg hc]
        by_cases c1 : r < 0
        · exact rfield_neg R i u hu r a c1
        · by_cases c2 : u.sort = r
          · by_cases c3 : a < 0
            · exact rfield_aneg R i u hu r a (by omega) c2 c3
            · exact rfield_abig R i u hu r a (by omega) c2 (by omega) (by omega)
          · exact rfield_sort R i u hu r a (by omega) c2

set_option maxRecDepth 100000 in
set_option maxHeartbeats 400000 in
theorem rField_no {w : World} {B b : Nat} {lim used : Int} {sv : Value} {rk rn : Int} {U : List RT} (R : RRep w B b lim used sv rk rn U) (k n r a : Int) (h : fieldTrap (U.map RT.abs) k n r a ≠ 0) :
    Calls Tryz.prog 117 #[.pointer (some ⟨b, 0, none⟩), .agg #[.int .i64 k, .int .i64 n], .int .i64 r, .int .i64 a] w fun e w' => e = .returned (.tuple #[.agg #[.int .i64 0, .int .i64 0], .int .i64 (fieldTrap (U.map RT.abs) k n r a)]) ∧ Fr [] w w' := by
  have hA : ∀ o o', RRep ((w.alloc o).alloc o') B b lim used sv rk rn U := fun o o' => R.frame (S := []) (((Fr.refl _ _).alloc o).alloc o') (by simp)
  have hF := fun o o' => rfield_no (hA o o') k n r a h
  generalize fieldTrap (U.map RT.abs) k n r a = X at *
  have hX : (X != 0) = true := by rw [bne_iff_ne]; exact h
  go_enter Tryz.func117, Tryz.ntmps117
  go_wp2_with fail
  refine (hF _ _).mono ?_
  rintro e w' ⟨rfl, hfr⟩
  obtain ⟨hl0, hl1, hlf⟩ := res30 ((hfr.block (w.heap.size + 1) (by simp) (by simp)).trans (blk2 w _ _))
  clear hF hA
  go_wp2
  refine bodyPost_ret (v := .tuple #[.agg #[.int .i64 0, .int .i64 0], .int .i64 X]) (by simp [results, Tryz.results117, go_sem, hl0, hl1]) rfl ⟨rfl, ?_⟩
  exact Fr.setCell (Fr.setCell ((((Fr.refl _ _).alloc _).alloc _).trans hfr) (.inr (by simp)) _) (.inr (by simp)) _

theorem own_pair {w : World} {B : Nat} {v : Value} {cs : List (Int × Int)} (h : w.ownsRow B 33 2 v cs.length (flat cs)) {j : Nat} {x : Int × Int} (hx : cs[j]? = some x) : ∃ g c, v = .slice (some ⟨g, 0, none⟩) cs.length c ∧ w.cell? ⟨g, j * 2, none⟩ = some (.int .i64 x.1) ∧ w.cell? ⟨g, j * 2 + 1, none⟩ = some (.int .i64 x.2) ∧ (∀ i, w.frozen? ⟨g, i, none⟩ = false) ∧ g < w.heap.size := by
  have h1 := flat_at cs j x hx
  obtain ⟨g, c, e, hc, hf, hlt⟩ := own_cells h h1.1
  obtain ⟨g', c', e', hc', _, _⟩ := own_cells h h1.2
  rw [e] at e'
  simp at e'
  obtain ⟨rfl, rfl⟩ := e'
  exact ⟨g, c, e, hc, hc', hf, hlt⟩

set_option maxRecDepth 100000 in
set_option maxHeartbeats 400000 in
theorem rField_ok {w : World} {B b : Nat} {lim used : Int} {sv : Value} {rk rn : Int} {U : List RT} (R : RRep w B b lim used sv rk rn U) (i : Nat) (u : RT) (hu : U[i]? = some u) (r : Int) (j : Nat) (h1 : 0 ≤ r) (h2 : u.sort = r) (x : Int × Int) (hx : u.cells[j]? = some x) :
    Calls Tryz.prog 117 #[.pointer (some ⟨b, 0, none⟩), .agg #[.int .i64 2, .int .i64 (i : Int)], .int .i64 r, .int .i64 (j : Int)] w fun e w' => e = .returned (.tuple #[.agg #[.int .i64 x.1, .int .i64 x.2], .int .i64 0]) ∧ Fr [] w w' := by
  have hA : ∀ o o', RRep ((w.alloc o).alloc o') B b lim used sv rk rn U := fun o o' => R.frame (S := []) (((Fr.refl _ _).alloc o).alloc o') (by simp)
  have hi : i < U.length := (List.getElem?_eq_some_iff.1 hu).1
  have hj : j < u.cells.length := (List.getElem?_eq_some_iff.1 hx).1
  have hF := fun o o' => rfield_ok (hA o o') i u hu r (j : Int) h1 h2 (by omega) (by omega)
  obtain ⟨g, c, a1, c1, hsv, hsl, hread⟩ := R.reads hu
  have hmem := List.mem_of_getElem? hu
  clear h2
  go_enter Tryz.func117, Tryz.ntmps117
  go_wp2_with fail
  refine (hF _ _).mono ?_
  rintro e w' ⟨rfl, hfr⟩
  have hFr := (((Fr.refl [] w).alloc _).alloc _).trans hfr
  obtain ⟨hl0, hl1, hlf⟩ := res30 ((hfr.block (w.heap.size + 1) (by simp) (by simp)).trans (blk2 w _ _))
  obtain ⟨d0, d1, d2⟩ := hread w' hFr
  obtain ⟨g1, c2, e2, x0, x1, _, _⟩ := own_pair ((R.frame hFr (by simp)).th u hmem) hx
  rw [hsl] at e2
  injection e2 with e3 e4 e5
  subst e3 e5
  clear hF hA hread hfr
  go_wp2
  refine bodyPost_ret (v := .tuple #[.agg #[.int .i64 x.1, .int .i64 x.2], .int .i64 0]) (by simp [results, Tryz.results117, go_sem, hl0, hl1]) rfl ⟨rfl, ?_⟩
  exact Fr.setCell (Fr.setCell hFr (.inr (by simp)) _) (.inr (by simp)) _

set_option maxRecDepth 100000 in
set_option maxHeartbeats 400000 in
theorem rSetField_no {w : World} {B b : Nat} {lim used : Int} {sv : Value} {rk rn : Int} {U : List RT} (R : RRep w B b lim used sv rk rn U) (k n r a x1 x2 : Int) (h : fieldTrap (U.map RT.abs) k n r a ≠ 0) :
    Calls Tryz.prog 118 #[.pointer (some ⟨b, 0, none⟩), .agg #[.int .i64 k, .int .i64 n], .int .i64 r, .int .i64 a, .agg #[.int .i64 x1, .int .i64 x2]] w fun e w' => e = .returned (.int .i64 (fieldTrap (U.map RT.abs) k n r a)) ∧ Fr [] w w' := by
  have hA : ∀ o o', RRep ((w.alloc o).alloc o') B b lim used sv rk rn U := fun o o' => R.frame (S := []) (((Fr.refl _ _).alloc o).alloc o') (by simp)
  have hF := fun o o' => rfield_no (hA o o') k n r a h
  generalize fieldTrap (U.map RT.abs) k n r a = X at *
  have hX : (X == 0) = false := by simpa using h
  go_enter Tryz.func118, Tryz.ntmps118
  go_wp2_with fail
  refine (hF _ _).mono ?_
  rintro e w' ⟨rfl, hfr⟩
  clear hF hA
  go_wp2
  go_ret
  exact ⟨rfl, (((Fr.refl _ _).alloc _).alloc _).trans hfr⟩

/-- Thing u with x in its cell a. -/
def RT.put (u : RT) (a : Nat) (x : Int × Int) : RT := { u with cells := u.cells.set a x }

theorem rflat_same {U : List RT} {i : Nat} {u v : RT} (hu : U[i]? = some u) (h1 : v.sort = u.sort) (h2 : v.sl = u.sl) : rflat (U.set i v) = rflat U := by
  induction U generalizing i with
  | nil => rfl
  | cons y r ih =>
    cases i with
    | zero => simp at hu; subst hu; simp [rflat, h1, h2]
    | succ i => simp at hu; simp [rflat, ih hu]

theorem own_put {w : World} {B g c : Nat} {cs : List (Int × Int)} (h : w.ownsRow B 33 2 (.slice (some ⟨g, 0, none⟩) cs.length c) cs.length (flat cs)) (a : Nat) (x : Int × Int) :
    ((w.setCell ⟨g, a * 2, none⟩ (.int .i64 x.1)).setCell ⟨g, a * 2 + 1, none⟩ (.int .i64 x.2)).ownsRow B 33 2 (.slice (some ⟨g, 0, none⟩) cs.length c) (cs.set a x).length (flat (cs.set a x)) := by
  rcases h.2 with ⟨e, _⟩ | ⟨g', cap, cur, e, r1, hgg, r2, r3, r4, r5⟩
  · simp at e
  · simp at e
    obtain ⟨rfl, rfl⟩ := e
    refine ⟨by rw [flat_length], .inr ⟨g, c, (cur.setIfInBounds (a * 2) (.int .i64 x.1)).setIfInBounds (a * 2 + 1) (.int .i64 x.2), by rw [List.length_set], r1, ?_, by rw [List.length_set]; exact r2, r3, by simpa using r4, ?_⟩⟩
    · simp [World.setCell, Array.getElem?_modify, hgg]
    · rw [List.length_set, flat_set, ← r5]
      simp only [Array.toList_setIfInBounds, List.take_set]

theorem RRep.put {w : World} {B b : Nat} {lim used : Int} {sv : Value} {rk rn : Int} {U : List RT} (R : RRep w B b lim used sv rk rn U) {i : Nat} {u : RT} (hu : U[i]? = some u) {g c : Nat} (hsl : u.sl = .slice (some ⟨g, 0, none⟩) u.cells.length c) (a : Nat) (x : Int × Int) :
    RRep ((w.setCell ⟨g, a * 2, none⟩ (.int .i64 x.1)).setCell ⟨g, a * 2 + 1, none⟩ (.int .i64 x.2)) B b lim used sv rk rn (U.set i (u.put a x)) := by
  have hm := List.mem_of_getElem? hu
  have hi : i < U.length := (List.getElem?_eq_some_iff.1 hu).1
  have hui : U[i] = u := (List.getElem?_eq_some_iff.1 hu).2
  have hT := R.th u hm
  have f : Fr [g] w ((w.setCell ⟨g, a * 2, none⟩ (.int .i64 x.1)).setCell ⟨g, a * 2 + 1, none⟩ (.int .i64 x.2)) := Fr.setCell (Fr.setCell (Fr.refl _ _) (.inl (by simp)) _) (.inl (by simp)) _
  have hblk : ∃ cur, w.heap[g]? = some (.cells cur 33 (0, 0)) := by
    rcases hT.2 with ⟨e, _⟩ | ⟨g', cap, cur, e, _, hgg, _⟩
    · rw [hsl] at e; simp at e
    · rw [hsl] at e
      simp at e
      obtain ⟨rfl, _⟩ := e
      exact ⟨cur, hgg⟩
  obtain ⟨cur, hgg⟩ := hblk
  have hsep : ∀ j v, U[j]? = some v → j ≠ i → v.sl.ownBlock ≠ some g := by
    intro j v hv hne hk
    have hj : j < U.length := (List.getElem?_eq_some_iff.1 hv).1
    have hvj : U[j] = v := (List.getElem?_eq_some_iff.1 hv).2
    have hs := List.pairwise_iff_getElem.1 R.sep
    have hug : u.sl.ownBlock = some g := by rw [hsl]; rfl
    have hij : i < j ∨ j < i := by omega
    rcases hij with hij | hij
    · exact hs i j hi hj hij g (by rw [hui]; exact hug) (by rw [hvj]; exact hk)
    · exact hs j i hj hi hij g (by rw [hvj]; exact hk) (by rw [hui]; exact hug)
  refine ⟨R.hb.fr f (by simpa using (R.hb.ne_of hgg (by decide)).symm), ?_, ?_, ?_, R.base⟩
  · rw [rflat_same (v := u.put a x) hu rfl rfl, List.length_set]
    exact own_fr R.row f (by intro k hk hm; simp at hm; subst hm; exact own_ne R.row hgg (by decide) hk)
  · intro v hv
    obtain ⟨j, hj, hjv⟩ := List.getElem_of_mem hv
    rw [List.length_set] at hj
    rw [List.getElem_set] at hjv
    split at hjv
    · subst hjv
      have := own_put (w := w) (B := B) (g := g) (c := c) (by rw [← hsl]; exact hT) a x
      rw [← hsl] at this
      exact this
    · rename_i hne
      have hvm : U[j]? = some v := by rw [List.getElem?_eq_getElem hj, hjv]
      exact own_fr (R.th v (List.mem_of_getElem? hvm)) f (by intro k hk hm; simp at hm; subst hm; exact hsep j v hvm (fun e => hne e.symm) hk)
  · rw [List.pairwise_iff_getElem]
    intro p q hp hq hpq k hk
    rw [List.length_set] at hp hq
    have own_eq : ∀ p (hp : p < (U.set i (u.put a x)).length), (U.set i (u.put a x))[p].sl = (U[p]'(by rw [List.length_set] at hp; exact hp)).sl := by
      intro p hp
      rw [List.getElem_set]
      split
      · rename_i e
        subst e
        rw [hui]
        rfl
      · rfl
    rw [own_eq] at hk ⊢
    exact List.pairwise_iff_getElem.1 R.sep p q hp hq hpq k hk

set_option maxRecDepth 100000 in
set_option maxHeartbeats 400000 in
theorem rSetField_ok {w : World} {B b : Nat} {lim used : Int} {sv : Value} {rk rn : Int} {U : List RT} (R : RRep w B b lim used sv rk rn U) (i : Nat) (u : RT) (hu : U[i]? = some u) (r : Int) (j : Nat) (h1 : 0 ≤ r) (h2 : u.sort = r) (hj : j < u.cells.length) (x1 x2 : Int) :
    Calls Tryz.prog 118 #[.pointer (some ⟨b, 0, none⟩), .agg #[.int .i64 2, .int .i64 (i : Int)], .int .i64 r, .int .i64 (j : Int), .agg #[.int .i64 x1, .int .i64 x2]] w fun e w' => e = .returned (.int .i64 0) ∧
      RRep w' B b lim used sv rk rn (U.set i (u.put j (x1, x2))) ∧ Fr u.sl.ownBlock.toList w w' := by
  have hA : ∀ o o', RRep ((w.alloc o).alloc o') B b lim used sv rk rn U := fun o o' => R.frame (S := []) (((Fr.refl _ _).alloc o).alloc o') (by simp)
  have hi : i < U.length := (List.getElem?_eq_some_iff.1 hu).1
  have hF := fun o o' => rfield_ok (hA o o') i u hu r (j : Int) h1 h2 (by omega) (by omega)
  obtain ⟨g, c, a1, c1, hsv, hsl, hread⟩ := R.reads hu
  have hmem := List.mem_of_getElem? hu
  clear h2
  go_enter Tryz.func118, Tryz.ntmps118
  go_wp2_with fail
  refine (hF _ _).mono ?_
  rintro e w' ⟨rfl, hfr⟩
  have hFr := (((Fr.refl [] w).alloc _).alloc _).trans hfr
  obtain ⟨hl0, hl1, hlf⟩ := res30 ((hfr.block (w.heap.size + 1) (by simp) (by simp)).trans (blk2 w _ _))
  obtain ⟨d0, d1, d2⟩ := hread w' hFr
  have R' := R.frame hFr (by simp)
  obtain ⟨g1, c2, e2, x0, x1', xf, _⟩ := own_pair (R'.th u hmem) (List.getElem?_eq_getElem hj)
  rw [hsl] at e2
  injection e2 with e3 e4 e5
  subst e3 e5
  clear hF hA hread hfr
  have hji : (j : Int) < (u.cells.length : Int) := by omega
  have hii : (i : Int) < (U.length : Int) := by omega
  go_wp2_with fail
  go_region
  all_goals go_wp2
  all_goals go_ret
  all_goals refine ⟨rfl, ?_, ?_⟩
  all_goals first
    | exact (R'.frame (S := []) (Fr.refl _ _).drew (by simp)).put hu hsl j (x1, x2)
    | (rw [hsl]; exact Fr.setCell (Fr.setCell ((hFr.sub (by simp)).drew) (.inl (by simp [Value.ownBlock])) _) (.inl (by simp [Value.ownBlock])) _)
end Go.Proofs.YtkjkpkmmojchiaaGreatDoor
