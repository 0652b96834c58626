/-
  HeapKeeps returns true where its numbers are in range, and writes to nothing that was there, told of values and worlds.
-/
import Derived.Test.YtkjkpkmmojchiaaGreatDoorHeapM
import Derived.Deep.RegionHeld3
import Derived.Deep.DeepCutAuto
namespace Go.Proofs.YtkjkpkmmojchiaaGreatDoor
open Go.RowKit

set_option maxHeartbeats 400000 in
theorem Int_any (w : World) (n : Int) : Calls Tryz.prog 72 #[.int .i64 n] w fun e w' => e = .returned (.agg #[.int .i64 0, .int .i64 n]) ∧ Fr [] w w' := by
  go_enter Tryz.func72, Tryz.ntmps72
  go_wp2
  refine bodyPost_ret (v := .agg #[.int .i64 0, .int .i64 n]) (by simp [results, Tryz.results72, go_sem]) rfl ⟨rfl, ?_⟩
  exact (Fr.refl _ _).alloc _

/-- A box of a caller: block k of w holds the value x. -/
def Box (w : World) (k : Nat) (x : Int × Int) : Prop := w.heap[k]? = some (.cells #[.int .i64 x.1, .int .i64 x.2] 33)
theorem Box.lt {w : World} {k : Nat} {x : Int × Int} (h : Box w k x) : k < w.heap.size := (Array.getElem?_eq_some_iff.1 h).1
theorem Box.c0 {w : World} {k : Nat} {x : Int × Int} (h : Box w k x) : w.cell? ⟨k, 0, none⟩ = some (.int .i64 x.1) := by unfold Box at h; simp [World.cell?, h]
theorem Box.c1 {w : World} {k : Nat} {x : Int × Int} (h : Box w k x) : w.cell? ⟨k, 1, none⟩ = some (.int .i64 x.2) := by unfold Box at h; simp [World.cell?, h]
theorem Box.fr {S : List Nat} {w w' : World} {k : Nat} {x : Int × Int} (h : Box w k x) (f : Fr S w w') (hS : k ∉ S) : Box w' k x := (f.block k h.lt hS).trans h
theorem Box.new (w : World) (x y : Int) : Box (w.alloc (.cells #[.int .i64 x, .int .i64 y] 33)) w.heap.size (x, y) := heap_alloc_new w _
theorem Box.out {w : World} {k : Nat} {x : Int × Int} (h : Box w k x) {B b : Nat} {lim used : Int} {sv : Value} {rk rn : Int} {T : List Thing} (R : Rep w B b lim used sv rk rn T) : k ∉ b :: sv.ownBlock.toList := by
  have a1 := R.hb.ne_of h (by decide)
  have a2 := own_ne_of R.row h (by decide)
  simp only [List.mem_cons, Option.mem_toList, not_or]
  exact ⟨a1, fun e => a2 e.symm⟩

theorem SetField_at {w : World} {B b : Nat} {lim used : Int} {sv : Value} {rk rn : Int} {T : List Thing} (R : Rep w B b lim used sv rk rn T) (i : Nat) (t : Thing) (ht : T[i]? = some t) (n r a : Int) (j : Nat) (hn : n = (i : Int)) (hr : t.sort = r) (hj : a = (j : Int)) (hs : 0 ≤ r) (ha : j < t.cells.length) (x1 x2 : Int) :
    Calls Tryz.prog 139 #[.pointer (some ⟨b, 0, none⟩), .agg #[.int .i64 2, .int .i64 n], .int .i64 r, .int .i64 a, .agg #[.int .i64 x1, .int .i64 x2]] w fun e w' => e = .returned (.int .i64 0) ∧
      Rep w' B b lim used sv rk rn (T.set i (t.put j (x1, x2))) ∧ Fr [t.rb] w w' := by
  subst hn hr hj
  exact SetField_ok R i t ht j hs ha x1 x2

theorem SetElem_at {w : World} {B b : Nat} {lim used : Int} {sv : Value} {rk rn : Int} {T : List Thing} (R : Rep w B b lim used sv rk rn T) (i : Nat) (t : Thing) (ht : T[i]? = some t) (n a : Int) (j : Nat) (hn : n = (i : Int)) (hj : a = (j : Int)) (hs : t.sort < 0) (ha : j < t.cells.length) (x1 x2 : Int) :
    Calls Tryz.prog 141 #[.pointer (some ⟨b, 0, none⟩), .agg #[.int .i64 2, .int .i64 n], .agg #[.int .i64 0, .int .i64 a], .agg #[.int .i64 x1, .int .i64 x2]] w fun e w' => e = .returned (.int .i64 0) ∧
      Rep w' B b lim used sv rk rn (T.set i (t.put j (x1, x2))) ∧ Fr [t.rb] w w' := by
  subst hn hj
  exact SetElem_ok R i t ht hs j ha x1 x2

theorem Field_at {w : World} {B b : Nat} {lim used : Int} {sv : Value} {rk rn : Int} {T : List Thing} (R : Rep w B b lim used sv rk rn T) (i : Nat) (t : Thing) (ht : T[i]? = some t) (n r a : Int) (j : Nat) (hn : n = (i : Int)) (hr : t.sort = r) (hj : a = (j : Int)) (hs : 0 ≤ r) (x : Int × Int) (hx : t.cells[j]? = some x) :
    Calls Tryz.prog 137 #[.pointer (some ⟨b, 0, none⟩), .agg #[.int .i64 2, .int .i64 n], .int .i64 r, .int .i64 a] w fun e w' => e = .returned (.tuple #[.agg #[.int .i64 x.1, .int .i64 x.2], .int .i64 0]) ∧ Fr [] w w' := by
  subst hn hr hj
  exact Field_ok R i t ht j hs x hx

theorem Elem_at {w : World} {B b : Nat} {lim used : Int} {sv : Value} {rk rn : Int} {T : List Thing} (R : Rep w B b lim used sv rk rn T) (i : Nat) (t : Thing) (ht : T[i]? = some t) (n a : Int) (j : Nat) (hn : n = (i : Int)) (hj : a = (j : Int)) (hs : t.sort < 0) (x : Int × Int) (hx : t.cells[j]? = some x) :
    Calls Tryz.prog 140 #[.pointer (some ⟨b, 0, none⟩), .agg #[.int .i64 2, .int .i64 n], .agg #[.int .i64 0, .int .i64 a]] w fun e w' => e = .returned (.tuple #[.agg #[.int .i64 x.1, .int .i64 x.2], .int .i64 0]) ∧ Fr [] w w' := by
  subst hn hj
  exact Elem_ok R i t ht hs j x hx

theorem Len_at {w : World} {B b : Nat} {lim used : Int} {sv : Value} {rk rn : Int} {T : List Thing} (R : Rep w B b lim used sv rk rn T) (i : Nat) (t : Thing) (ht : T[i]? = some t) (n m : Int) (hn : n = (i : Int)) (hm : m = (t.cells.length : Int)) (hs : t.sort < 0) :
    Calls Tryz.prog 142 #[.pointer (some ⟨b, 0, none⟩), .agg #[.int .i64 2, .int .i64 n]] w fun e w' => e = .returned (.tuple #[.agg #[.int .i64 0, .int .i64 m], .int .i64 0]) ∧ Fr [] w w' := by
  subst hn hm
  exact Len_ok R i t ht hs

theorem Box.all {w : World} {k : Nat} {x : Int × Int} (h : Box w k x) : w.cell? ⟨k, 0, none⟩ = some (.int .i64 x.1) ∧ w.cell? ⟨k, 1, none⟩ = some (.int .i64 x.2) := ⟨h.c0, h.c1⟩

/-- All that a heap is made of lies below block m. -/
def Low (m b : Nat) (sv : Value) (T : List Thing) : Prop := b < m ∧ (∀ g, sv.ownBlock = some g → g < m) ∧ ∀ t, t ∈ T → t.tb < m ∧ t.rb < m

theorem Rep.low {w : World} {B b : Nat} {lim used : Int} {sv : Value} {rk rn : Int} {T : List Thing} (R : Rep w B b lim used sv rk rn T) {m : Nat} (hm : w.heap.size ≤ m) : Low m b sv T :=
  ⟨by have := R.hb.lt; omega, fun g hg => by have := (R.row.lt g hg).2; omega, fun t ht => by
    have a1 := (Array.getElem?_eq_some_iff.1 (R.th t ht).own).1
    have a2 := (Array.getElem?_eq_some_iff.1 (R.th t ht).row).1
    omega⟩

theorem Rep.far {w w' : World} {S : List Nat} {B b : Nat} {lim used : Int} {sv : Value} {rk rn : Int} {T : List Thing} (R : Rep w B b lim used sv rk rn T) {m : Nat} (L : Low m b sv T) (f : Fr S w w') (hS : ∀ k, k ∈ S → m ≤ k) : Rep w' B b lim used sv rk rn T := by
  have hn : ∀ k, k < m → k ∉ S := fun k hk hm => by have := hS k hm; omega
  refine ⟨R.hb.fr f (hn _ L.1), ?_, ?_, R.sep, R.base, R.rows⟩
  · refine ⟨R.row.1, ?_⟩
    rcases R.row.2 with e | ⟨g, cap, cur, e, r1, hgg, r2⟩
    · exact .inl e
    · exact .inr ⟨g, cap, cur, e, r1, (f.block g (Array.getElem?_eq_some_iff.1 hgg).1 (hn _ (L.2.1 g (by rw [e]; rfl)))).trans hgg, r2⟩
  · intro t ht
    exact (R.th t ht).fr f (hn _ (L.2.2 t ht).1) (hn _ (L.2.2 t ht).2)

theorem Box.fz {w : World} {k : Nat} {x : Int × Int} (h : Box w k x) (i : Nat) : w.frozen? ⟨k, i, none⟩ = false := by unfold Box at h; simp [World.frozen?, h]
theorem Box.set {w : World} {k : Nat} {x : Int × Int} (h : Box w k x) (p q : Int) : Box ((w.setCell ⟨k, 0, none⟩ (.int .i64 p)).setCell ⟨k, 1, none⟩ (.int .i64 q)) k (p, q) := by
  unfold Box at h ⊢
  simp [World.setCell, Array.getElem?_modify, h]

theorem Fr.cells {w w' : World} (f : Fr [] w w') : (∀ b o, b < w.heap.size → w'.cell? ⟨b, o, none⟩ = w.cell? ⟨b, o, none⟩) ∧ (∀ b o, b < w.heap.size → w'.frozen? ⟨b, o, none⟩ = w.frozen? ⟨b, o, none⟩) :=
  ⟨fun b o h => World.cell?_of_block (w := w) (a := ⟨b, o, none⟩) (f.block b h (by simp)), fun b o h => World.frozen?_of_block (w := w) (a := ⟨b, o, none⟩) (f.block b h (by simp))⟩

/-- What the last part of HeapKeeps leans on. -/
structure KI (w : World) (xb bb vb b m : Nat) (x1 x2 : Int) (y : Int × Int) (U : Int) (sv : Value) (T : List Thing) (w' : World) : Prop where
  X : Box w' xb (x1, x2)
  B : Box w' bb (2, 1)
  V : Box w' vb y
  R : Rep w' b b 1000 U sv 0 0 T
  F : Below xb w w'
  sz : m ≤ w'.heap.size
  l1 : xb < m
  l2 : bb < m
  l3 : vb < m
  L : Low m b sv T

theorem KI.fr {w : World} {xb bb vb b m : Nat} {x1 x2 : Int} {y : Int × Int} {U : Int} {sv : Value} {T : List Thing} {W w' : World} {S : List Nat} (h : KI w xb bb vb b m x1 x2 y U sv T W) (f : Fr S W w') (hS : ∀ k, k ∈ S → m ≤ k) : KI w xb bb vb b m x1 x2 y U sv T w' := by
  have hn : ∀ k, k < m → k ∉ S := fun k hk hm => by have := hS k hm; omega
  exact ⟨h.X.fr f (hn _ h.l1), h.B.fr f (hn _ h.l2), h.V.fr f (hn _ h.l3), h.R.far h.L f hS, h.F.trans (f.below (by have := h.X.lt; omega) (fun k hk => by have := hS k hk; have := h.l1; omega)), Nat.le_trans h.sz f.size, h.l1, h.l2, h.l3, h.L⟩

theorem KI.alloc {w : World} {xb bb vb b m : Nat} {x1 x2 : Int} {y : Int × Int} {U : Int} {sv : Value} {T : List Thing} {W : World} (h : KI w xb bb vb b m x1 x2 y U sv T W) (o : Obj) : KI w xb bb vb b m x1 x2 y U sv T (W.alloc o) := h.fr ((Fr.refl [] _).alloc o) (by simp)
theorem KI.drew {w : World} {xb bb vb b m : Nat} {x1 x2 : Int} {y : Int × Int} {U : Int} {sv : Value} {T : List Thing} {W : World} (h : KI w xb bb vb b m x1 x2 y U sv T W) : KI w xb bb vb b m x1 x2 y U sv T W.drew := h.fr (Fr.refl [] _).drew (by simp)
theorem KI.store {w : World} {xb bb vb b m : Nat} {x1 x2 : Int} {y : Int × Int} {U : Int} {sv : Value} {T : List Thing} {W : World} (h : KI w xb bb vb b m x1 x2 y U sv T W) {k : Nat} (hk : m ≤ k) (u v : Value) : KI w xb bb vb b m x1 x2 y U sv T ((W.setCell ⟨k, 0, none⟩ u).setCell ⟨k, 1, none⟩ v) :=
  h.fr (Fr.setCell (Fr.setCell (Fr.refl [k] _) (.inl (by simp)) _) (.inl (by simp)) _) (by simp; omega)

/-- What the last statement of HeapKeeps reads. -/
structure KJ (b vb wb tb nb : Nat) (y : Int × Int) (f : Int) (U : Int) (sv : Value) (w w' : World) : Prop where
  V : Box w' vb y
  W : Box w' wb y
  Y : Box w' tb y
  N : Box w' nb (0, f)
  H : HB w' b 1000 U sv 0 0
  F : Below w.heap.size w w'

theorem KJ.fr {b vb wb tb nb : Nat} {y : Int × Int} {f : Int} {U : Int} {sv : Value} {w W w' : World} (h : KJ b vb wb tb nb y f U sv w W) (g : Fr [] W w') (hw : w.heap.size ≤ W.heap.size) : KJ b vb wb tb nb y f U sv w w' :=
  ⟨h.V.fr g (by simp), h.W.fr g (by simp), h.Y.fr g (by simp), h.N.fr g (by simp), h.H.fr g (by simp), h.F.trans (g.below hw (by simp))⟩
theorem KJ.drew {b vb wb tb nb : Nat} {y : Int × Int} {f : Int} {U : Int} {sv : Value} {w W : World} (h : KJ b vb wb tb nb y f U sv w W) : KJ b vb wb tb nb y f U sv w W.drew := h.fr (Fr.refl [] _).drew h.F.size

end Go.Proofs.YtkjkpkmmojchiaaGreatDoor
