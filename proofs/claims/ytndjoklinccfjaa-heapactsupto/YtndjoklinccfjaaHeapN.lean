/-
  HeapKeeps returns true where its numbers are in range, and writes to nothing that was there, told of values and worlds.
-/
import Derived.Test.YtndjoklinccfjaaHeapM
import Derived.Test.YtndjoklinccfjaaHeapE
import Derived.Deep.RegionHeld3
import Derived.Deep.DeepCutAuto
namespace Go.Proofs.Ytndjoklinccfjaa
open Go.RowKit

set_option maxHeartbeats 400000 in
theorem Int_any (w : World) (n : Int) : Calls Try.prog 18 #[.int .i64 n] w fun e w' => e = .returned (.agg #[.int .i64 0, .int .i64 n]) ∧ Fr [] w w' := by
  go_enter Try.func18, Try.ntmps18
  go_wp2
  refine bodyPost_ret (v := .agg #[.int .i64 0, .int .i64 n]) (by simp [results, Try.results18, go_sem]) rfl ⟨rfl, ?_⟩
  exact (Fr.refl _ _).alloc _

/-- A box of a caller: block k of w holds the value x. -/
def Box (w : World) (k : Nat) (x : Int × Int) : Prop := w.heap[k]? = some (.cells #[.int .i64 x.1, .int .i64 x.2] 30)
theorem Box.lt {w : World} {k : Nat} {x : Int × Int} (h : Box w k x) : k < w.heap.size := (Array.getElem?_eq_some_iff.1 h).1
theorem Box.c0 {w : World} {k : Nat} {x : Int × Int} (h : Box w k x) : w.cell? ⟨k, 0, none⟩ = some (.int .i64 x.1) := by unfold Box at h; simp [World.cell?, h]
theorem Box.c1 {w : World} {k : Nat} {x : Int × Int} (h : Box w k x) : w.cell? ⟨k, 1, none⟩ = some (.int .i64 x.2) := by unfold Box at h; simp [World.cell?, h]
theorem Box.fr {S : List Nat} {w w' : World} {k : Nat} {x : Int × Int} (h : Box w k x) (f : Fr S w w') (hS : k ∉ S) : Box w' k x := (f.block k h.lt hS).trans h
theorem Box.new (w : World) (x y : Int) : Box (w.alloc (.cells #[.int .i64 x, .int .i64 y] 30)) w.heap.size (x, y) := heap_alloc_new w _
theorem Box.out {w : World} {k : Nat} {x : Int × Int} (h : Box w k x) {B b : Nat} {lim used : Int} {sv : Value} {rk rn : Int} {T : List Thing} (R : Rep w B b lim used sv rk rn T) : k ∉ b :: sv.ownBlock.toList := by
  have a1 := R.hb.ne_of h (by decide)
  have a2 := own_ne_of R.row h (by decide)
  simp only [List.mem_cons, Option.mem_toList, not_or]
  exact ⟨a1, fun e => a2 e.symm⟩

theorem SetField_at {w : World} {B b : Nat} {lim used : Int} {sv : Value} {rk rn : Int} {T : List Thing} (R : Rep w B b lim used sv rk rn T) (i : Nat) (t : Thing) (ht : T[i]? = some t) (n r a : Int) (j : Nat) (hn : n = (i : Int)) (hr : t.sort = r) (hj : a = (j : Int)) (hs : 0 ≤ r) (ha : j < t.cells.length) (x1 x2 : Int) :
    Calls Try.prog 19 #[.pointer (some ⟨b, 0, none⟩), .agg #[.int .i64 2, .int .i64 n], .int .i64 r, .int .i64 a, .agg #[.int .i64 x1, .int .i64 x2]] w fun e w' => e = .returned (.int .i64 0) ∧
      Rep w' B b lim used sv rk rn (T.set i (t.put j (x1, x2))) ∧ Fr [t.rb] w w' := by
  subst hn hr hj
  exact SetField_ok R i t ht j hs ha x1 x2

theorem SetElem_at {w : World} {B b : Nat} {lim used : Int} {sv : Value} {rk rn : Int} {T : List Thing} (R : Rep w B b lim used sv rk rn T) (i : Nat) (t : Thing) (ht : T[i]? = some t) (n a : Int) (j : Nat) (hn : n = (i : Int)) (hj : a = (j : Int)) (hs : t.sort < 0) (ha : j < t.cells.length) (x1 x2 : Int) :
    Calls Try.prog 20 #[.pointer (some ⟨b, 0, none⟩), .agg #[.int .i64 2, .int .i64 n], .agg #[.int .i64 0, .int .i64 a], .agg #[.int .i64 x1, .int .i64 x2]] w fun e w' => e = .returned (.int .i64 0) ∧
      Rep w' B b lim used sv rk rn (T.set i (t.put j (x1, x2))) ∧ Fr [t.rb] w w' := by
  subst hn hj
  exact SetElem_ok R i t ht hs j ha x1 x2

theorem Field_at {w : World} {B b : Nat} {lim used : Int} {sv : Value} {rk rn : Int} {T : List Thing} (R : Rep w B b lim used sv rk rn T) (i : Nat) (t : Thing) (ht : T[i]? = some t) (n r a : Int) (j : Nat) (hn : n = (i : Int)) (hr : t.sort = r) (hj : a = (j : Int)) (hs : 0 ≤ r) (x : Int × Int) (hx : t.cells[j]? = some x) :
    Calls Try.prog 21 #[.pointer (some ⟨b, 0, none⟩), .agg #[.int .i64 2, .int .i64 n], .int .i64 r, .int .i64 a] w fun e w' => e = .returned (.tuple #[.agg #[.int .i64 x.1, .int .i64 x.2], .int .i64 0]) ∧ Fr [] w w' := by
  subst hn hr hj
  exact Field_ok R i t ht j hs x hx

theorem Elem_at {w : World} {B b : Nat} {lim used : Int} {sv : Value} {rk rn : Int} {T : List Thing} (R : Rep w B b lim used sv rk rn T) (i : Nat) (t : Thing) (ht : T[i]? = some t) (n a : Int) (j : Nat) (hn : n = (i : Int)) (hj : a = (j : Int)) (hs : t.sort < 0) (x : Int × Int) (hx : t.cells[j]? = some x) :
    Calls Try.prog 22 #[.pointer (some ⟨b, 0, none⟩), .agg #[.int .i64 2, .int .i64 n], .agg #[.int .i64 0, .int .i64 a]] w fun e w' => e = .returned (.tuple #[.agg #[.int .i64 x.1, .int .i64 x.2], .int .i64 0]) ∧ Fr [] w w' := by
  subst hn hj
  exact Elem_ok R i t ht hs j x hx

theorem Len_at {w : World} {B b : Nat} {lim used : Int} {sv : Value} {rk rn : Int} {T : List Thing} (R : Rep w B b lim used sv rk rn T) (i : Nat) (t : Thing) (ht : T[i]? = some t) (n m : Int) (hn : n = (i : Int)) (hm : m = (t.cells.length : Int)) (hs : t.sort < 0) :
    Calls Try.prog 23 #[.pointer (some ⟨b, 0, none⟩), .agg #[.int .i64 2, .int .i64 n]] w fun e w' => e = .returned (.tuple #[.agg #[.int .i64 0, .int .i64 m], .int .i64 0]) ∧ Fr [] w w' := by
  subst hn hm
  exact Len_ok R i t ht hs

theorem Box.all {w : World} {k : Nat} {x : Int × Int} (h : Box w k x) : w.cell? ⟨k, 0, none⟩ = some (.int .i64 x.1) ∧ w.cell? ⟨k, 1, none⟩ = some (.int .i64 x.2) := ⟨h.c0, h.c1⟩

/-- All that a heap is made of lies below block m. -/
def Low (m b : Nat) (sv : Value) (T : List Thing) : Prop := b < m ∧ (∀ g, sv.ownBlock = some g → g < m) ∧ ∀ t, t ∈ T → t.tb < m ∧ t.rb < m

theorem Rep.low {w : World} {B b : Nat} {lim used : Int} {sv : Value} {rk rn : Int} {T : List Thing} (R : Rep w B b lim used sv rk rn T) {m : Nat} (hm : w.heap.size ≤ m) : Low m b sv T :=
  ⟨by have := R.hb.lt; omega, fun g hg => by have := (R.row.lt g hg).2; omega, fun t ht => by
    have a1 := (Array.getElem?_eq_some_iff.1 (R.th t ht).own).1
    have a2 := (Array.getElem?_eq_some_iff.1 (R.th t ht).row).1
    omega⟩

theorem Rep.far {w w' : World} {S : List Nat} {B b : Nat} {lim used : Int} {sv : Value} {rk rn : Int} {T : List Thing} (R : Rep w B b lim used sv rk rn T) {m : Nat} (L : Low m b sv T) (f : Fr S w w') (hS : ∀ k, k ∈ S → m ≤ k) : Rep w' B b lim used sv rk rn T := by
  have hn : ∀ k, k < m → k ∉ S := fun k hk hm => by have := hS k hm; omega
  refine ⟨R.hb.fr f (hn _ L.1), ?_, ?_, R.sep, R.base, R.rows⟩
  · refine ⟨R.row.1, ?_⟩
    rcases R.row.2 with e | ⟨g, cap, cur, e, r1, hgg, r2⟩
    · exact .inl e
    · exact .inr ⟨g, cap, cur, e, r1, (f.block g (Array.getElem?_eq_some_iff.1 hgg).1 (hn _ (L.2.1 g (by rw [e]; rfl)))).trans hgg, r2⟩
  · intro t ht
    exact (R.th t ht).fr f (hn _ (L.2.2 t ht).1) (hn _ (L.2.2 t ht).2)

theorem Box.fz {w : World} {k : Nat} {x : Int × Int} (h : Box w k x) (i : Nat) : w.frozen? ⟨k, i, none⟩ = false := by unfold Box at h; simp [World.frozen?, h]
theorem Box.set {w : World} {k : Nat} {x : Int × Int} (h : Box w k x) (p q : Int) : Box ((w.setCell ⟨k, 0, none⟩ (.int .i64 p)).setCell ⟨k, 1, none⟩ (.int .i64 q)) k (p, q) := by
  unfold Box at h ⊢
  simp [World.setCell, Array.getElem?_modify, h]

theorem Fr.cells {w w' : World} (f : Fr [] w w') : (∀ b o, b < w.heap.size → w'.cell? ⟨b, o, none⟩ = w.cell? ⟨b, o, none⟩) ∧ (∀ b o, b < w.heap.size → w'.frozen? ⟨b, o, none⟩ = w.frozen? ⟨b, o, none⟩) :=
  ⟨fun b o h => World.cell?_of_block (w := w) (a := ⟨b, o, none⟩) (f.block b h (by simp)), fun b o h => World.frozen?_of_block (w := w) (a := ⟨b, o, none⟩) (f.block b h (by simp))⟩

/-- What the last part of HeapKeeps leans on. -/
structure KI (w : World) (xb bb vb b m : Nat) (x1 x2 : Int) (y : Int × Int) (U : Int) (sv : Value) (T : List Thing) (w' : World) : Prop where
  X : Box w' xb (x1, x2)
  B : Box w' bb (2, 1)
  V : Box w' vb y
  R : Rep w' b b 1000 U sv 0 0 T
  F : Below xb w w'
  sz : m ≤ w'.heap.size
  l1 : xb < m
  l2 : bb < m
  l3 : vb < m
  L : Low m b sv T

theorem KI.fr {w : World} {xb bb vb b m : Nat} {x1 x2 : Int} {y : Int × Int} {U : Int} {sv : Value} {T : List Thing} {W w' : World} {S : List Nat} (h : KI w xb bb vb b m x1 x2 y U sv T W) (f : Fr S W w') (hS : ∀ k, k ∈ S → m ≤ k) : KI w xb bb vb b m x1 x2 y U sv T w' := by
  have hn : ∀ k, k < m → k ∉ S := fun k hk hm => by have := hS k hm; omega
  exact ⟨h.X.fr f (hn _ h.l1), h.B.fr f (hn _ h.l2), h.V.fr f (hn _ h.l3), h.R.far h.L f hS, h.F.trans (f.below (by have := h.X.lt; omega) (fun k hk => by have := hS k hk; have := h.l1; omega)), Nat.le_trans h.sz f.size, h.l1, h.l2, h.l3, h.L⟩

theorem KI.alloc {w : World} {xb bb vb b m : Nat} {x1 x2 : Int} {y : Int × Int} {U : Int} {sv : Value} {T : List Thing} {W : World} (h : KI w xb bb vb b m x1 x2 y U sv T W) (o : Obj) : KI w xb bb vb b m x1 x2 y U sv T (W.alloc o) := h.fr ((Fr.refl [] _).alloc o) (by simp)
theorem KI.drew {w : World} {xb bb vb b m : Nat} {x1 x2 : Int} {y : Int × Int} {U : Int} {sv : Value} {T : List Thing} {W : World} (h : KI w xb bb vb b m x1 x2 y U sv T W) : KI w xb bb vb b m x1 x2 y U sv T W.drew := h.fr (Fr.refl [] _).drew (by simp)
theorem KI.store {w : World} {xb bb vb b m : Nat} {x1 x2 : Int} {y : Int × Int} {U : Int} {sv : Value} {T : List Thing} {W : World} (h : KI w xb bb vb b m x1 x2 y U sv T W) {k : Nat} (hk : m ≤ k) (u v : Value) : KI w xb bb vb b m x1 x2 y U sv T ((W.setCell ⟨k, 0, none⟩ u).setCell ⟨k, 1, none⟩ v) :=
  h.fr (Fr.setCell (Fr.setCell (Fr.refl [k] _) (.inl (by simp)) _) (.inl (by simp)) _) (by simp; omega)

/-- What the last statement of HeapKeeps reads. -/
structure KJ (b vb wb tb nb : Nat) (y : Int × Int) (f : Int) (U : Int) (sv : Value) (w w' : World) : Prop where
  V : Box w' vb y
  W : Box w' wb y
  Y : Box w' tb y
  N : Box w' nb (0, f)
  H : HB w' b 1000 U sv 0 0
  F : Below w.heap.size w w'

theorem KJ.fr {b vb wb tb nb : Nat} {y : Int × Int} {f : Int} {U : Int} {sv : Value} {w W w' : World} (h : KJ b vb wb tb nb y f U sv w W) (g : Fr [] W w') (hw : w.heap.size ≤ W.heap.size) : KJ b vb wb tb nb y f U sv w w' :=
  ⟨h.V.fr g (by simp), h.W.fr g (by simp), h.Y.fr g (by simp), h.N.fr g (by simp), h.H.fr g (by simp), h.F.trans (g.below hw (by simp))⟩
theorem KJ.drew {b vb wb tb nb : Nat} {y : Int × Int} {f : Int} {U : Int} {sv : Value} {w W : World} (h : KJ b vb wb tb nb y f U sv w W) : KJ b vb wb tb nb y f U sv w W.drew := h.fr (Fr.refl [] _).drew h.F.size

set_option maxRecDepth 100000 in
set_option maxHeartbeats 1000000 in
theorem keeps_in (f a o : Nat) (x1 x2 : Int) (w : World) (h1 : (1 : Int) ≤ (f : Int)) (h2 : (f : Int) ≤ 100) (h3 : (a : Int) < (f : Int)) (h4 : (o : Int) < (f : Int)) :
    Calls Try.prog 4 #[.int .i64 (f : Int), .int .i64 (a : Int), .int .i64 (o : Int), .agg #[.int .i64 x1, .int .i64 x2]] w fun e w' => e = .returned (.bool true) ∧ Below w.heap.size w w' := by
  go_enter Try.func4, Try.ntmps4
  go_wp2_with fail
  have X0 := Box.new w x1 x2
  have F0 : Fr [] w (w.alloc (.cells #[.int .i64 x1, .int .i64 x2] 30)) := (Fr.refl _ _).alloc _
  generalize w.alloc (.cells #[.int .i64 x1, .int .i64 x2] 30) = w0 at *
  generalize hxb : w.heap.size = xb at *
  have HXB : Hid (w.heap.size = xb) := hxb
  clear hxb
  refine (awake_any _).mono ?_
  rintro e w1 ⟨rfl, f1⟩
  have X1 := X0.fr f1 (by simp)
  have F1 := F0.trans f1
  clear X0 F0 f1
  go_wp2_with fail
  refine (new_any 1000 _).mono ?_
  rintro e w2 ⟨rfl, rfl⟩
  have R2 := Rep.new w1 1000
  have hcap : cap0 1000 = 1000 := by decide
  rw [hcap] at R2 ⊢
  clear hcap
  have X2 := (fun o => X1.fr ((Fr.refl [] _).alloc o) (by simp)) (Obj.cells #[Value.bool true, Value.int IntKind.i64 1000, Value.int IntKind.i64 0, Value.slice none 0 0, Value.int IntKind.i64 0, Value.int IntKind.i64 0] 61)
  have F2 := F1.alloc (Obj.cells #[Value.bool true, Value.int IntKind.i64 1000, Value.int IntKind.i64 0, Value.slice none 0 0, Value.int IntKind.i64 0, Value.int IntKind.i64 0] 61)
  have hxlt : xb < w1.heap.size := X1.lt
  generalize w1.alloc (Obj.cells #[Value.bool true, Value.int IntKind.i64 1000, Value.int IntKind.i64 0, Value.slice none 0 0, Value.int IntKind.i64 0, Value.int IntKind.i64 0] 61) = w2 at *
  generalize w1.heap.size = b at *
  clear X1 F1
  go_wp2_with fail
  refine (rec_int R2 3 (f : Int) (by omega) (by omega) (by omega) (by omega) (by omega) (by omega) (by omega) (by omega) (by simp)).mono ?_
  rintro e w3 ⟨rfl, sv3, t1, R3, s1, c1, n1, f3, k3⟩
  have X3 := X2.fr f3 (X2.out R2)
  have F3 : Fr [b] w w3 := (F2.sub (by simp)).trans (f3.sub (by simp [Value.ownBlock]))
  have z23 := f3.size
  rw [Int.toNat_natCast] at c1
  have n1' : t1.rb < w3.heap.size := R3.lt _ (by simp [foot])
  have S1 : Hid (t1.sort = 3) := s1
  have C1 : Hid (t1.cells = List.replicate f ((0 : Int), (0 : Int))) := c1
  clear s1 c1
  have hxt1 : xb < t1.rb := by have := X2.lt; omega
  clear R2 X2 F2 f3 k3
  go_wp2_with fail
  have A3 := Box.new w3 2 0
  have f4 : Fr [] w3 (w3.alloc (.cells #[.int .i64 2, .int .i64 0] 30)) := (Fr.refl _ _).alloc _
  refine (Int_any _ _).mono ?_
  rintro e w4 ⟨rfl, g4⟩
  have A4 := A3.fr g4 (by simp)
  have f4 := f4.trans g4
  have X4 := X3.fr f4 (by simp)
  have R4 := R3.frame f4 (by simp)
  have F4 := F3.trans (f4.sub (by simp))
  have z34 := f4.size
  have hab : t1.rb < w3.heap.size := n1'
  generalize w3.heap.size = ab at *
  clear A3 g4 X3 R3 F3 n1'
  go_wp2_with fail
  refine (Arr_ok R4 (f : Int) (by omega) (by omega) (by omega) (by omega) (by omega) (by omega) (by simp)).mono ?_
  rintro e w5 ⟨rfl, sv5, t2, R5, s2, c2, n2, f5, k5⟩
  rw [Int.toNat_natCast] at c2
  have S2 : Hid (t2.sort = -1) := s2
  have C2 : Hid (t2.cells = List.replicate f ((0 : Int), (0 : Int))) := c2
  have X5 := X4.fr f5 (X4.out R4)
  have A5 := A4.fr f5 (A4.out R4)
  have n2' : t2.rb < w5.heap.size := R5.lt _ (by simp [foot])
  have F5 : Below xb w w5 := by
    have hb4 := F4.below (B := xb) (by rw [HXB.out]; exact Nat.le_refl _) (by simp; omega)
    exact R4.below f5 (fun _ h => h) (Nat.le_of_lt hxlt) hb4
  have hxt2 : xb < t2.rb := by have := X4.lt; omega
  have hat2 : ab < t2.rb := by have := A4.lt; omega
  have z45 := f5.size
  clear s2 c2 X4 A4 F4 R4 f4 f5 k5
  go_wp2_with fail
  have B6 := Box.new w5 2 1
  have X6 := X5.fr ((Fr.refl [] _).alloc (.cells #[.int .i64 2, .int .i64 1] 30)) (by simp)
  have A6 := A5.fr ((Fr.refl [] _).alloc (.cells #[.int .i64 2, .int .i64 1] 30)) (by simp)
  have R6 := R5.frame ((Fr.refl [] _).alloc (.cells #[.int .i64 2, .int .i64 1] 30)) (by simp)
  have F6 := F5.alloc (o := (.cells #[.int .i64 2, .int .i64 1] 30)) (by have := X5.lt; omega)
  have hbt2 : t2.rb < w5.heap.size := n2'
  have hbt1 : t1.rb < w5.heap.size := by omega
  generalize w5.alloc (.cells #[.int .i64 2, .int .i64 1] 30) = w6 at *
  generalize w5.heap.size = bb at *
  clear X5 A5 R5 F5
  go_region_held3 (fun w' => (w'.cell? ⟨xb, 0, none⟩ = some (.int .i64 x1) ∧ w'.cell? ⟨xb, 1, none⟩ = some (.int .i64 x2)) ∧ (w'.cell? ⟨ab, 0, none⟩ = some (.int .i64 2) ∧ w'.cell? ⟨ab, 1, none⟩ = some (.int .i64 0)) ∧ (w'.cell? ⟨bb, 0, none⟩ = some (.int .i64 2) ∧ w'.cell? ⟨bb, 1, none⟩ = some (.int .i64 1)))
    (first | exact ⟨X6.all, A6.all, B6.all⟩ | exact ⟨X7.all, A7.all, B7.all⟩ | exact ⟨X8.all, A8.all, B8.all⟩ | exact ⟨X9.all, A9.all, B9.all⟩)
    (first
      | (go_at_call 19; refine (SetField_at (R6.frame ((Fr.refl [] _).drew) (by simp)) 0 t1 rfl 0 3 (a : Int) a rfl S1.out rfl (by omega) (by rw [C1.out]; simp; omega) x1 x2).mono ?_; rintro e w7 ⟨rfl, R7, f7⟩; have X7 := X6.fr (((Fr.refl _ _).drew).trans f7) (by simp; omega); have A7 := A6.fr (((Fr.refl _ _).drew).trans f7) (by simp; omega); have B7 := B6.fr (((Fr.refl _ _).drew).trans f7) (by simp; omega))
      | (go_at_call 18; refine (Int_any _ _).mono ?_; rintro e w8 ⟨rfl, f8⟩; have X8 := X7.fr f8 (by simp); have A8 := A7.fr f8 (by simp); have B8 := B7.fr f8 (by simp); have R8 := R7.frame f8 (by simp))
      | (go_at_call 20; refine (SetElem_at R8 1 t2 rfl 1 (a : Int) a rfl rfl (by rw [S2.out]; omega) (by rw [C2.out]; simp; omega) x1 x2).mono ?_; rintro e w9 ⟨rfl, R9, f9⟩; have X9 := X8.fr f9 (by simp; omega); have A9 := A8.fr f9 (by simp; omega); have B9 := B8.fr f9 (by simp; omega)))
  rename_i hHeld
  clear hHeld
  have F9 : Below xb w w9 := F6.trans (((Fr.refl _ _).drew).trans f7 |>.below (by have := X6.lt; omega) (by simp; omega) |>.trans ((f8.below (by have := X7.lt; omega) (by simp)).trans (f9.below (by have := X8.lt; omega) (by simp; omega))))
  obtain ⟨y, hy⟩ : ∃ y : Int × Int, y = if o = a then (x1, x2) else (0, 0) := ⟨_, rfl⟩
  have HY : Hid (y = if o = a then (x1, x2) else (0, 0)) := hy
  clear hy
  have hp : ∀ t : Thing, t.cells = List.replicate f ((0 : Int), (0 : Int)) → (t.put a (x1, x2)).cells[o]? = some y := by
    intro t ht
    rw [HY.out]
    simp only [Thing.put, ht, List.getElem?_set, List.getElem?_replicate, List.length_replicate]
    by_cases hoa : o = a
    · subst hoa
      simp
      omega
    · have : ¬ a = o := fun e => hoa e.symm
      simp [hoa, this]
      omega
  have hp1 := hp t1 C1.out
  have hp2 := hp t2 C2.out
  have S1' : Hid ((t1.put a (x1, x2)).sort = 3) := S1.out
  have S2' : Hid ((t2.put a (x1, x2)).sort = -1) := S2.out
  have C2' : Hid ((t2.put a (x1, x2)).cells.length = f) := by unfold Hid; simp [Thing.put, C2.out]
  have R9' : Rep w9 b b 1000 (0 + (1 + (f : Int)) + (1 + (f : Int))) sv5 0 0 [t1.put a (x1, x2), t2.put a (x1, x2)] := R9
  generalize t1.put a (x1, x2) = u1 at *
  generalize t2.put a (x1, x2) = u2 at *
  clear hp R9 R8 R7 f9 f8 f7 X8 X7 X6 A8 A7 A6 B8 B7 B6 R6 F6
  have a90 := A9.c0
  have a91 := A9.c1
  go_wp2_with fail
  refine (Field_at R9' 0 u1 rfl 0 3 (o : Int) o rfl S1'.out rfl (by omega) y hp1).mono ?_
  rintro e w10 ⟨rfl, f10⟩
  go_wp2_with fail
  have I : KI w xb bb w10.heap.size b (w10.heap.size + 1) x1 x2 y (0 + (1 + (f : Int)) + (1 + (f : Int))) sv5 [u1, u2] (w10.alloc (Obj.cells #[Value.int IntKind.i64 y.fst, Value.int IntKind.i64 y.snd] 30)) := by
    have f11 := f10.alloc (Obj.cells #[Value.int IntKind.i64 y.fst, Value.int IntKind.i64 y.snd] 30)
    have e1 := X9.lt
    have e2 := B9.lt
    have e3 := f10.size
    exact ⟨X9.fr f11 (by simp), B9.fr f11 (by simp), Box.new w10 _ _, R9'.frame f11 (by simp), F9.trans (f11.below (by omega) (by simp)), by simp, by omega, by omega, by omega, R9'.low (by omega)⟩
  generalize w10.alloc (Obj.cells #[Value.int IntKind.i64 y.fst, Value.int IntKind.i64 y.snd] 30) = w11 at *
  generalize w10.heap.size + 1 = m at *
  generalize w10.heap.size = vb at *
  generalize HU : 0 + (1 + (f : Int)) + (1 + (f : Int)) = U at *
  have HU' : Hid (0 + (1 + (f : Int)) + (1 + (f : Int)) = U) := HU
  clear HU a90 a91 X9 A9 B9 F9 R9' f10 hxt1 hab n1 z23 z34 hxt2 hat2 n2 n2' z45 hbt2 hbt1 S1 C1 S2 C2 f4 hp1 S1'
  have hb0 : ∀ w', KI w xb bb vb b m x1 x2 y U sv5 [u1, u2] w' → w'.cell? ⟨bb, 0, none⟩ = some (.int .i64 2) := fun w' h => h.B.c0
  have hb1 : ∀ w', KI w xb bb vb b m x1 x2 y U sv5 [u1, u2] w' → w'.cell? ⟨bb, 1, none⟩ = some (.int .i64 1) := fun w' h => h.B.c1
  have y11 := I.sz
  go_cut [16, 17] (fun p q w' => ∃ wb, p = .pointer (some ⟨wb, 0, none⟩) ∧ q = .int .i64 0 ∧ Box w' wb y ∧ KI w xb bb vb b m x1 x2 y U sv5 [u1, u2] w')
  case first =>
    go_region_held3 (fun w' => KI w xb bb vb b m x1 x2 y U sv5 [u1, u2] w')
      (with_reducible (first | assumption | (refine KI.store ?_ ?_ _ _ <;> assumption) | (refine KI.alloc ?_ _; assumption) | (refine KI.drew ?_; assumption) | (refine KI.drew ?_; refine KI.alloc ?_ _; assumption) | (refine KI.alloc ?_ _; refine KI.drew ?_; assumption)))
      (first
        | (go_at_call 18; refine (Int_any _ _).mono ?_; rintro e w12 ⟨rfl, f12⟩; have I12 := KI.fr (by assumption) f12 (by simp); have y12 := I12.sz; (try (have N12 : Box w12 w11.heap.size (0, 0) := Box.fr (w := (w11.alloc (.cells #[.int .i64 0, .int .i64 0] 30)).drew) (Box.new w11 0 0) f12 (by simp))))
        | (go_at_call 22; refine (Elem_at (KI.R (by assumption)) 1 u2 rfl 1 (o : Int) o rfl rfl (by rw [S2'.out]; omega) y hp2).mono ?_; rintro e w13 ⟨rfl, f13⟩; have I13 := KI.fr (by assumption) f13 (by simp); have y13 := I13.sz; (try (have N13 : Box w13 w11.heap.size (0, 0) := Box.fr N12 f13 (by simp); have p1 := N13.c0; have p2 := N13.c1; have p3 := N13.fz)); (try (have N13 : Box w13 w12.heap.size (0, 0) := Box.fr (w := w12.alloc (.cells #[.int .i64 0, .int .i64 0] 30)) (Box.new w12 0 0) f13 (by simp); have p1 := N13.c0; have p2 := N13.c1; have p3 := N13.fz))))
    all_goals (go_wp2_with fail; go_meet; first | exact ⟨_, rfl, rfl, Box.new _ _ _, by assumption⟩ | exact ⟨_, rfl, rfl, N13.set _ _, by assumption⟩)
  case rest =>
    obtain ⟨wb, rfl, rfl, W, J⟩ := hcut
    clear hb0 hb1 I y11
    have xc0 := fun o => (J.alloc o).X.c0
    have xc1 := fun o => (J.alloc o).X.c1
    have bc0 := fun o => (J.alloc o).B.c0
    have bc1 := fun o => (J.alloc o).B.c1
    have HF : Hid (Below w.heap.size w wc) := by unfold Hid; rw [HXB.out]; exact J.F
    by_cases hoa : o = a
    · subst hoa
      have hye := HY.out
      rw [if_pos rfl] at hye
      subst hye
      go_wp2_with fail
      refine (Len_at (J.alloc _).R 1 u2 rfl 1 (f : Int) rfl (by rw [C2'.out]) (by rw [S2'.out]; omega)).mono ?_
      rintro e w14 ⟨rfl, f14⟩
      go_wp2_with fail
      have K : KJ b vb wb wc.heap.size w14.heap.size (x1, x2) (f : Int) U sv5 w (w14.alloc (.cells #[.int .i64 0, .int .i64 (f : Int)] 30)) := by
        have g := ((Fr.refl [] wc).alloc (.cells #[.int .i64 x1, .int .i64 x2] 30)).trans (f14.alloc (.cells #[.int .i64 0, .int .i64 (f : Int)] 30))
        have g2 := f14.alloc (.cells #[.int .i64 0, .int .i64 (f : Int)] 30)
        have hs := HF.out.size
        exact ⟨J.V.fr g (by simp), W.fr g (by simp), (Box.new wc _ _).fr g2 (by simp), Box.new w14 _ _, J.R.hb.fr g (by simp), HF.out.trans (g.below hs (by simp))⟩
      generalize w14.alloc (.cells #[.int .i64 0, .int .i64 (f : Int)] 30) = w15 at *
      generalize wc.heap.size = tb at *
      generalize w14.heap.size = nb at *
      have hU : (U == 2 + 2 * (f : Int)) = true := by have := HU'.out; simp; omega
      have hUw : (U == IntKind.i64.wrap (2 + IntKind.i64.wrap (2 * (f : Int)))) = true := by
        have := HU'.out
        rw [show IntKind.i64.wrap (2 * (f : Int)) = 2 * (f : Int) from by rw [IntKind.wrap_i64]; omega, show IntKind.i64.wrap (2 + 2 * (f : Int)) = 2 + 2 * (f : Int) from by rw [IntKind.wrap_i64]; omega]
        exact hU
      have v0 : ∀ w', KJ b vb wb tb nb (x1, x2) (f : Int) U sv5 w w' → w'.cell? ⟨vb, 0, none⟩ = some (.int .i64 x1) := fun w' h => h.V.c0
      have v1 : ∀ w', KJ b vb wb tb nb (x1, x2) (f : Int) U sv5 w w' → w'.cell? ⟨vb, 1, none⟩ = some (.int .i64 x2) := fun w' h => h.V.c1
      have v2 : ∀ w', KJ b vb wb tb nb (x1, x2) (f : Int) U sv5 w w' → w'.cell? ⟨wb, 0, none⟩ = some (.int .i64 x1) := fun w' h => h.W.c0
      have v3 : ∀ w', KJ b vb wb tb nb (x1, x2) (f : Int) U sv5 w w' → w'.cell? ⟨wb, 1, none⟩ = some (.int .i64 x2) := fun w' h => h.W.c1
      have v4 : ∀ w', KJ b vb wb tb nb (x1, x2) (f : Int) U sv5 w w' → w'.cell? ⟨tb, 0, none⟩ = some (.int .i64 x1) := fun w' h => h.Y.c0
      have v5 : ∀ w', KJ b vb wb tb nb (x1, x2) (f : Int) U sv5 w w' → w'.cell? ⟨tb, 1, none⟩ = some (.int .i64 x2) := fun w' h => h.Y.c1
      have v6 : ∀ w', KJ b vb wb tb nb (x1, x2) (f : Int) U sv5 w w' → w'.cell? ⟨nb, 0, none⟩ = some (.int .i64 0) := fun w' h => h.N.c0
      have v7 : ∀ w', KJ b vb wb tb nb (x1, x2) (f : Int) U sv5 w w' → w'.cell? ⟨nb, 1, none⟩ = some (.int .i64 (f : Int)) := fun w' h => h.N.c1
      clear xc0 xc1 bc0 bc1 HF J W hp2 f14
      go_region_held3 (fun w' => KJ b vb wb tb nb (x1, x2) (f : Int) U sv5 w w')
        (with_reducible (first | assumption | (refine KJ.drew ?_; assumption)))
        (first
          | (go_at_call 18; refine (Int_any _ _).mono ?_; rintro e w16 ⟨rfl, f16⟩; have K16 := KJ.fr (by assumption) f16 (KJ.F (by assumption)).size)
          | (go_at_call 12; refine (used_any _ (KJ.H (by assumption))).mono ?_; rintro e w17 ⟨rfl, rfl⟩))
      all_goals (go_wp2; go_ret; exact ⟨rfl, KJ.F (by assumption)⟩)
    · have hoa2 : ((o : Int) == (a : Int)) = false := by simp; omega
      have hye := HY.out
      rw [if_neg hoa] at hye
      subst hye
      go_wp2_with fail
      refine (Len_at (J.alloc _).R 1 u2 rfl 1 (f : Int) rfl (by rw [C2'.out]) (by rw [S2'.out]; omega)).mono ?_
      rintro e w14 ⟨rfl, f14⟩
      go_wp2_with fail
      have K : KJ b vb wb wc.heap.size w14.heap.size (0, 0) (f : Int) U sv5 w (w14.alloc (.cells #[.int .i64 0, .int .i64 (f : Int)] 30)) := by
        have g := ((Fr.refl [] wc).alloc (.cells #[.int .i64 0, .int .i64 0] 30)).trans (f14.alloc (.cells #[.int .i64 0, .int .i64 (f : Int)] 30))
        have g2 := f14.alloc (.cells #[.int .i64 0, .int .i64 (f : Int)] 30)
        have hs := HF.out.size
        exact ⟨J.V.fr g (by simp), W.fr g (by simp), (Box.new wc _ _).fr g2 (by simp), Box.new w14 _ _, J.R.hb.fr g (by simp), HF.out.trans (g.below hs (by simp))⟩
      generalize w14.alloc (.cells #[.int .i64 0, .int .i64 (f : Int)] 30) = w15 at *
      generalize wc.heap.size = tb at *
      generalize w14.heap.size = nb at *
      have hU : (U == 2 + 2 * (f : Int)) = true := by have := HU'.out; simp; omega
      have hUw : (U == IntKind.i64.wrap (2 + IntKind.i64.wrap (2 * (f : Int)))) = true := by
        have := HU'.out
        rw [show IntKind.i64.wrap (2 * (f : Int)) = 2 * (f : Int) from by rw [IntKind.wrap_i64]; omega, show IntKind.i64.wrap (2 + 2 * (f : Int)) = 2 + 2 * (f : Int) from by rw [IntKind.wrap_i64]; omega]
        exact hU
      have v0 : ∀ w', KJ b vb wb tb nb (0, 0) (f : Int) U sv5 w w' → w'.cell? ⟨vb, 0, none⟩ = some (.int .i64 0) := fun w' h => h.V.c0
      have v1 : ∀ w', KJ b vb wb tb nb (0, 0) (f : Int) U sv5 w w' → w'.cell? ⟨vb, 1, none⟩ = some (.int .i64 0) := fun w' h => h.V.c1
      have v2 : ∀ w', KJ b vb wb tb nb (0, 0) (f : Int) U sv5 w w' → w'.cell? ⟨wb, 0, none⟩ = some (.int .i64 0) := fun w' h => h.W.c0
      have v3 : ∀ w', KJ b vb wb tb nb (0, 0) (f : Int) U sv5 w w' → w'.cell? ⟨wb, 1, none⟩ = some (.int .i64 0) := fun w' h => h.W.c1
      have v4 : ∀ w', KJ b vb wb tb nb (0, 0) (f : Int) U sv5 w w' → w'.cell? ⟨tb, 0, none⟩ = some (.int .i64 0) := fun w' h => h.Y.c0
      have v5 : ∀ w', KJ b vb wb tb nb (0, 0) (f : Int) U sv5 w w' → w'.cell? ⟨tb, 1, none⟩ = some (.int .i64 0) := fun w' h => h.Y.c1
      have v6 : ∀ w', KJ b vb wb tb nb (0, 0) (f : Int) U sv5 w w' → w'.cell? ⟨nb, 0, none⟩ = some (.int .i64 0) := fun w' h => h.N.c0
      have v7 : ∀ w', KJ b vb wb tb nb (0, 0) (f : Int) U sv5 w w' → w'.cell? ⟨nb, 1, none⟩ = some (.int .i64 (f : Int)) := fun w' h => h.N.c1
      clear xc0 xc1 bc0 bc1 HF J W hp2 f14
      go_region_held3 (fun w' => KJ b vb wb tb nb (0, 0) (f : Int) U sv5 w w')
        (with_reducible (first | assumption | (refine KJ.drew ?_; assumption)))
        (first
          | (go_at_call 18; refine (Int_any _ _).mono ?_; rintro e w16 ⟨rfl, f16⟩; have K16 := KJ.fr (by assumption) f16 (KJ.F (by assumption)).size)
          | (go_at_call 12; refine (used_any _ (KJ.H (by assumption))).mono ?_; rintro e w17 ⟨rfl, rfl⟩))
      all_goals (go_wp2; go_ret; exact ⟨rfl, KJ.F (by assumption)⟩)
end Go.Proofs.Ytndjoklinccfjaa
