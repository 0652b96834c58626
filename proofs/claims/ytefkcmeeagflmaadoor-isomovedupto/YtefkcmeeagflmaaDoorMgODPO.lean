/-
  Texts of the proof, in their order: HeapN, HeapT; conditions: as each says.
-/
import Derived.Deep.RegionHeld3
import Derived.Deep.DeepCutAuto
import Derived.Test.YtefkcmeeagflmaaDoorMgOIBF
namespace Go.Proofs.YtefkcmeeagflmaaDoor
open Go.RowKit

/-- A box of a caller: block k of w holds the value x. -/
def Box (w : World) (k : Nat) (x : Int × Int) : Prop := w.heap[k]? = some (.cells #[.int .i64 x.1, .int .i64 x.2] 45)
theorem Box.lt {w : World} {k : Nat} {x : Int × Int} (h : Box w k x) : k < w.heap.size := (Array.getElem?_eq_some_iff.1 h).1
theorem Box.c0 {w : World} {k : Nat} {x : Int × Int} (h : Box w k x) : w.cell? ⟨k, 0, none⟩ = some (.int .i64 x.1) := by unfold Box at h; simp [World.cell?, h]
theorem Box.c1 {w : World} {k : Nat} {x : Int × Int} (h : Box w k x) : w.cell? ⟨k, 1, none⟩ = some (.int .i64 x.2) := by unfold Box at h; simp [World.cell?, h]
theorem Box.fr {S : List Nat} {w w' : World} {k : Nat} {x : Int × Int} (h : Box w k x) (f : Fr S w w') (hS : k ∉ S) : Box w' k x := (f.block k h.lt hS).trans h
theorem Box.new (w : World) (x y : Int) : Box (w.alloc (.cells #[.int .i64 x, .int .i64 y] 45)) w.heap.size (x, y) := heap_alloc_new w _
theorem Box.out {w : World} {k : Nat} {x : Int × Int} (h : Box w k x) {B b : Nat} {lim used : Int} {sv : Value} {rk rn : Int} {T : List Thing} (R : Rep w B b lim used sv rk rn T) : k ∉ b :: sv.ownBlock.toList := by
  have a1 := R.hb.ne_of h (by decide)
  have a2 := own_ne_of R.row h (by decide)
  simp only [List.mem_cons, Option.mem_toList, not_or]
  exact ⟨a1, fun e => a2 e.symm⟩

theorem Box.all {w : World} {k : Nat} {x : Int × Int} (h : Box w k x) : w.cell? ⟨k, 0, none⟩ = some (.int .i64 x.1) ∧ w.cell? ⟨k, 1, none⟩ = some (.int .i64 x.2) := ⟨h.c0, h.c1⟩

/-- All that a heap is made of lies below block m. -/
def Low (m b : Nat) (sv : Value) (T : List Thing) : Prop := b < m ∧ (∀ g, sv.ownBlock = some g → g < m) ∧ ∀ t, t ∈ T → t.tb < m ∧ t.rb < m

theorem Rep.low {w : World} {B b : Nat} {lim used : Int} {sv : Value} {rk rn : Int} {T : List Thing} (R : Rep w B b lim used sv rk rn T) {m : Nat} (hm : w.heap.size ≤ m) : Low m b sv T :=
  ⟨by have := R.hb.lt; omega, fun g hg => by have := (R.row.lt g hg).2; omega, fun t ht => by
    have a1 := (Array.getElem?_eq_some_iff.1 (R.th t ht).own).1
    have a2 := (Array.getElem?_eq_some_iff.1 (R.th t ht).row).1
    omega⟩

theorem Rep.far {w w' : World} {S : List Nat} {B b : Nat} {lim used : Int} {sv : Value} {rk rn : Int} {T : List Thing} (R : Rep w B b lim used sv rk rn T) {m : Nat} (L : Low m b sv T) (f : Fr S w w') (hS : ∀ k, k ∈ S → m ≤ k) : Rep w' B b lim used sv rk rn T := by
  have hn : ∀ k, k < m → k ∉ S := fun k hk hm => by have := hS k hm; omega
  refine ⟨R.hb.fr f (hn _ L.1), ?_, ?_, R.sep, R.base, R.rows⟩
  · refine ⟨R.row.1, ?_⟩
    rcases R.row.2 with e | ⟨g, cap, cur, e, r1, hgg, r2⟩
    · exact .inl e
    · exact .inr ⟨g, cap, cur, e, r1, (f.block g (Array.getElem?_eq_some_iff.1 hgg).1 (hn _ (L.2.1 g (by rw [e]; rfl)))).trans hgg, r2⟩
  · intro t ht
    exact (R.th t ht).fr f (hn _ (L.2.2 t ht).1) (hn _ (L.2.2 t ht).2)

theorem Box.fz {w : World} {k : Nat} {x : Int × Int} (h : Box w k x) (i : Nat) : w.frozen? ⟨k, i, none⟩ = false := by unfold Box at h; simp [World.frozen?, h]
theorem Box.set {w : World} {k : Nat} {x : Int × Int} (h : Box w k x) (p q : Int) : Box ((w.setCell ⟨k, 0, none⟩ (.int .i64 p)).setCell ⟨k, 1, none⟩ (.int .i64 q)) k (p, q) := by
  unfold Box at h ⊢
  simp [World.setCell, Array.getElem?_modify, h]

theorem Fr.cells {w w' : World} (f : Fr [] w w') : (∀ b o, b < w.heap.size → w'.cell? ⟨b, o, none⟩ = w.cell? ⟨b, o, none⟩) ∧ (∀ b o, b < w.heap.size → w'.frozen? ⟨b, o, none⟩ = w.frozen? ⟨b, o, none⟩) :=
  ⟨fun b o h => World.cell?_of_block (w := w) (a := ⟨b, o, none⟩) (f.block b h (by simp)), fun b o h => World.frozen?_of_block (w := w) (a := ⟨b, o, none⟩) (f.block b h (by simp))⟩

/-- What the last part of HeapKeeps leans on. -/
structure KI (w : World) (xb bb vb b m : Nat) (x1 x2 : Int) (y : Int × Int) (U : Int) (sv : Value) (T : List Thing) (w' : World) : Prop where
  X : Box w' xb (x1, x2)
  B : Box w' bb (2, 1)
  V : Box w' vb y
  R : Rep w' b b 1000 U sv 0 0 T
  F : Below xb w w'
  sz : m ≤ w'.heap.size
  l1 : xb < m
  l2 : bb < m
  l3 : vb < m
  L : Low m b sv T

theorem KI.fr {w : World} {xb bb vb b m : Nat} {x1 x2 : Int} {y : Int × Int} {U : Int} {sv : Value} {T : List Thing} {W w' : World} {S : List Nat} (h : KI w xb bb vb b m x1 x2 y U sv T W) (f : Fr S W w') (hS : ∀ k, k ∈ S → m ≤ k) : KI w xb bb vb b m x1 x2 y U sv T w' := by
  have hn : ∀ k, k < m → k ∉ S := fun k hk hm => by have := hS k hm; omega
  exact ⟨h.X.fr f (hn _ h.l1), h.B.fr f (hn _ h.l2), h.V.fr f (hn _ h.l3), h.R.far h.L f hS, h.F.trans (f.below (by have := h.X.lt; omega) (fun k hk => by have := hS k hk; have := h.l1; omega)), Nat.le_trans h.sz f.size, h.l1, h.l2, h.l3, h.L⟩

theorem KI.alloc {w : World} {xb bb vb b m : Nat} {x1 x2 : Int} {y : Int × Int} {U : Int} {sv : Value} {T : List Thing} {W : World} (h : KI w xb bb vb b m x1 x2 y U sv T W) (o : Obj) : KI w xb bb vb b m x1 x2 y U sv T (W.alloc o) := h.fr ((Fr.refl [] _).alloc o) (by simp)
theorem KI.drew {w : World} {xb bb vb b m : Nat} {x1 x2 : Int} {y : Int × Int} {U : Int} {sv : Value} {T : List Thing} {W : World} (h : KI w xb bb vb b m x1 x2 y U sv T W) : KI w xb bb vb b m x1 x2 y U sv T W.drew := h.fr (Fr.refl [] _).drew (by simp)
theorem KI.store {w : World} {xb bb vb b m : Nat} {x1 x2 : Int} {y : Int × Int} {U : Int} {sv : Value} {T : List Thing} {W : World} (h : KI w xb bb vb b m x1 x2 y U sv T W) {k : Nat} (hk : m ≤ k) (u v : Value) : KI w xb bb vb b m x1 x2 y U sv T ((W.setCell ⟨k, 0, none⟩ u).setCell ⟨k, 1, none⟩ v) :=
  h.fr (Fr.setCell (Fr.setCell (Fr.refl [k] _) (.inl (by simp)) _) (.inl (by simp)) _) (by simp; omega)

/-- What the last statement of HeapKeeps reads. -/
structure KJ (b vb wb tb nb : Nat) (y : Int × Int) (f : Int) (U : Int) (sv : Value) (w w' : World) : Prop where
  V : Box w' vb y
  W : Box w' wb y
  Y : Box w' tb y
  N : Box w' nb (0, f)
  H : HB w' b 1000 U sv 0 0
  F : Below w.heap.size w w'

theorem KJ.fr {b vb wb tb nb : Nat} {y : Int × Int} {f : Int} {U : Int} {sv : Value} {w W w' : World} (h : KJ b vb wb tb nb y f U sv w W) (g : Fr [] W w') (hw : w.heap.size ≤ W.heap.size) : KJ b vb wb tb nb y f U sv w w' :=
  ⟨h.V.fr g (by simp), h.W.fr g (by simp), h.Y.fr g (by simp), h.N.fr g (by simp), h.H.fr g (by simp), h.F.trans (g.below hw (by simp))⟩
theorem KJ.drew {b vb wb tb nb : Nat} {y : Int × Int} {f : Int} {U : Int} {sv : Value} {w W : World} (h : KJ b vb wb tb nb y f U sv w W) : KJ b vb wb tb nb y f U sv w W.drew := h.fr (Fr.refl [] _).drew h.F.size

end Go.Proofs.YtefkcmeeagflmaaDoor
namespace Go.Proofs.YtefkcmeeagflmaaDoor
open Go.RowKit

/-- A thing of the reference: its cells' slice, its sort, its cells. -/
structure RT where
  sl : Value
  sort : Int
  cells : List (Int × Int)

def RT.abs (u : RT) : Int × List (Int × Int) := (u.sort, u.cells)

/-- The cells of a list of things. -/
def rflat : List RT → List Value
  | [] => []
  | u :: r => .int .i64 u.sort :: u.sl :: rflat r

def RH (w : World) (r : Nat) (lim used : Int) (sv : Value) (rk rn : Int) : Prop :=
  w.heap[r]? = some (.cells #[sv, .int .i64 lim, .int .i64 used, .int .i64 rk, .int .i64 rn] 70 (0, 0))

section
variable {w : World} {r : Nat} {lim used : Int} {sv : Value} {rk rn : Int}
theorem RH.c0 (h : RH w r lim used sv rk rn) : w.cell? ⟨r, 0, none⟩ = some sv := by simp [RH] at h; simp [World.cell?, h]
theorem RH.c1 (h : RH w r lim used sv rk rn) : w.cell? ⟨r, 1, none⟩ = some (.int .i64 lim) := by simp [RH] at h; simp [World.cell?, h]
theorem RH.c2 (h : RH w r lim used sv rk rn) : w.cell? ⟨r, 2, none⟩ = some (.int .i64 used) := by simp [RH] at h; simp [World.cell?, h]
theorem RH.c3 (h : RH w r lim used sv rk rn) : w.cell? ⟨r, 3, none⟩ = some (.int .i64 rk) := by simp [RH] at h; simp [World.cell?, h]
theorem RH.c4 (h : RH w r lim used sv rk rn) : w.cell? ⟨r, 4, none⟩ = some (.int .i64 rn) := by simp [RH] at h; simp [World.cell?, h]
theorem RH.fz (h : RH w r lim used sv rk rn) (i : Nat) : w.frozen? ⟨r, i, none⟩ = false := by simp [RH] at h; simp [World.frozen?, h]
theorem RH.lt (h : RH w r lim used sv rk rn) : r < w.heap.size := (Array.getElem?_eq_some_iff.1 h).1
theorem RH.fr {S : List Nat} {w' : World} (h : RH w r lim used sv rk rn) (f : Fr S w w') (hb : r ∉ S) : RH w' r lim used sv rk rn := (f.block r h.lt hb).trans h
theorem RH.setUsed (h : RH w r lim used sv rk rn) (u : Int) : RH (w.setCell ⟨r, 2, none⟩ (.int .i64 u)) r lim u sv rk rn := by
  unfold RH at h ⊢
  simp [World.setCell, Array.getElem?_modify, h]
theorem RH.setThings (h : RH w r lim used sv rk rn) (s : Value) : RH (w.setCell ⟨r, 0, none⟩ s) r lim used s rk rn := by
  unfold RH at h ⊢
  simp [World.setCell, Array.getElem?_modify, h]
theorem RH.setRoot (h : RH w r lim used sv rk rn) (p q : Int) : RH ((w.setCell ⟨r, 3, none⟩ (.int .i64 p)).setCell ⟨r, 4, none⟩ (.int .i64 q)) r lim used sv p q := by
  unfold RH at h ⊢
  simp [World.setCell, Array.getElem?_modify, h]
theorem RH.ne_of (h : RH w r lim used sv rk rn) {k : Nat} {c : Array Value} {e : TypeId} {z : Nat × Nat} (hk : w.heap[k]? = some (.cells c e z)) (he : e ≠ 70) : k ≠ r := by
  rintro rfl
  unfold RH at h
  rw [h] at hk
  simp at hk
  exact he hk.2.1.symm
end

/-- An owned row keeps its block's type. -/
theorem own_ne {w : World} {B n : Nat} {e0 : TypeId} {size : Nat} {sv : Value} {xs : List Value} (h : w.ownsRow B e0 size sv n xs) {k : Nat} {c : Array Value} {e : TypeId} {z : Nat × Nat} (hk : w.heap[k]? = some (.cells c e z)) (he : e ≠ e0) : sv.ownBlock ≠ some k := by
  rcases h.2 with ⟨rfl, _⟩ | ⟨g, cap, cur, rfl, _, hgg, _⟩
  · simp [Value.ownBlock]
  · simp [Value.ownBlock]
    rintro rfl
    rw [hgg] at hk
    simp at hk
    exact he hk.2.1.symm

theorem own_fr {S : List Nat} {w w' : World} {B n : Nat} {e : TypeId} {size : Nat} {sv : Value} {xs : List Value} (h : w.ownsRow B e size sv n xs) (f : Fr S w w') (hS : ∀ k, sv.ownBlock = some k → k ∉ S) : w'.ownsRow B e size sv n xs := by
  refine ⟨h.1, ?_⟩
  rcases h.2 with e1 | ⟨g, cap, cur, e1, r1, hgg, r2⟩
  · exact .inl e1
  · exact .inr ⟨g, cap, cur, e1, r1, (f.block g (Array.getElem?_eq_some_iff.1 hgg).1 (hS g (by rw [e1]; rfl))).trans hgg, r2⟩

theorem own_ne2 {w : World} {B B' n n' : Nat} {e e' : TypeId} {size size' : Nat} {s s' : Value} {xs xs' : List Value} (h : w.ownsRow B e size s n xs) (h' : w.ownsRow B' e' size' s' n' xs') (he : e ≠ e') : ∀ k, s.ownBlock = some k → s'.ownBlock ≠ some k := by
  intro k hk
  rcases h.2 with ⟨rfl, _⟩ | ⟨g, cap, cur, rfl, _, hgg, _⟩
  · simp [Value.ownBlock] at hk
  · simp [Value.ownBlock] at hk
    subst hk
    exact own_ne h' hgg he

structure RRep (w : World) (B r : Nat) (lim used : Int) (sv : Value) (rk rn : Int) (U : List RT) : Prop where
  hb : RH w r lim used sv rk rn
  row : w.ownsRow B 41 2 sv U.length (rflat U)
  th : ∀ u, u ∈ U → w.ownsRow B 45 2 u.sl u.cells.length (flat u.cells)
  sep : U.Pairwise (fun u v => ∀ k, u.sl.ownBlock = some k → v.sl.ownBlock ≠ some k)
  base : B ≤ r

/-- What the reference's heap writes to. -/
def rfoot (r : Nat) (sv : Value) (U : List RT) : List Nat := r :: (sv.ownBlock.toList ++ U.flatMap fun u => u.sl.ownBlock.toList)

theorem RRep.lt {w : World} {B r : Nat} {lim used : Int} {sv : Value} {rk rn : Int} {U : List RT} (h : RRep w B r lim used sv rk rn U) : ∀ k, k ∈ rfoot r sv U → k < w.heap.size := by
  intro k hk
  unfold rfoot at hk
  simp only [List.mem_cons, List.mem_append, Option.mem_toList, List.mem_flatMap] at hk
  rcases hk with rfl | hk | ⟨u, hu, hk⟩
  · exact h.hb.lt
  · exact (h.row.lt k hk).2
  · exact ((h.th u hu).lt k hk).2

theorem RRep.fr {S : List Nat} {w w' : World} {B r : Nat} {lim used : Int} {sv : Value} {rk rn : Int} {U : List RT} (h : RRep w B r lim used sv rk rn U) (f : Fr S w w') (hS : ∀ k, k ∈ rfoot r sv U → k ∉ S) : RRep w' B r lim used sv rk rn U := by
  refine ⟨h.hb.fr f (hS _ (by simp [rfoot])), own_fr h.row f (fun k hk => hS k (by simp [rfoot, hk])), fun u hu => own_fr (h.th u hu) f (fun k hk => hS k ?_), h.sep, h.base⟩
  unfold rfoot
  simp only [List.mem_cons, List.mem_append, Option.mem_toList, List.mem_flatMap]
  exact .inr (.inr ⟨u, hu, hk⟩)

theorem RRep.frame {S : List Nat} {w w' : World} {B r : Nat} {lim used : Int} {sv : Value} {rk rn : Int} {U : List RT} (h : RRep w B r lim used sv rk rn U) (f : Fr S w w') (hS : ∀ k, k ∈ S → w.heap.size ≤ k) : RRep w' B r lim used sv rk rn U :=
  h.fr f (fun k hk hm => by have := h.lt k hk; have := hS k hm; omega)

theorem RRep.setUsed {w : World} {B r : Nat} {lim used : Int} {sv : Value} {rk rn : Int} {U : List RT} (h : RRep w B r lim used sv rk rn U) (u : Int) : RRep (w.setCell ⟨r, 2, none⟩ (.int .i64 u)) B r lim u sv rk rn U := by
  have f : Fr [r] w (w.setCell ⟨r, 2, none⟩ (.int .i64 u)) := (Fr.refl _ _).setCell (.inl (by simp)) _
  refine ⟨h.hb.setUsed u, own_fr h.row f ?_, fun v hv => own_fr (h.th v hv) f ?_, h.sep, h.base⟩
  · intro k hk hm
    simp at hm
    subst hm
    unfold RH at *
    exact own_ne h.row h.hb (by decide) hk
  · intro k hk hm
    simp at hm
    subst hm
    exact own_ne (h.th v hv) h.hb (by decide) hk

set_option maxHeartbeats 400000 in
theorem RNew_any (l : Int) (w : World) :
    Calls Tryd.prog 22 #[.int .i64 l] w fun e w' => e = .returned (.pointer (some ⟨w.heap.size, 0, none⟩)) ∧ w' = w.alloc (.cells #[.slice none 0 0, .int .i64 (cap0 l), .int .i64 0, .int .i64 0, .int .i64 0] 70) := by
  unfold cap0
  by_cases h1 : l < 0
  · go_enter Tryd.func22, Tryd.ntmps22
    go_wp2
    go_ret
    exact ⟨rfl, rfl⟩
  · by_cases h2 : 10000000 < l
    · go_enter Tryd.func22, Tryd.ntmps22
      go_wp2
      go_ret
      exact ⟨rfl, rfl⟩
    · go_enter Tryd.func22, Tryd.ntmps22
      go_wp2
      go_ret
      exact ⟨rfl, rfl⟩

theorem RRep.new (w : World) (l : Int) : RRep (w.alloc (.cells #[.slice none 0 0, .int .i64 (cap0 l), .int .i64 0, .int .i64 0, .int .i64 0] 70)) w.heap.size w.heap.size (cap0 l) 0 (.slice none 0 0) 0 0 [] :=
  ⟨heap_alloc_new w _, World.ownsRow_nil _ _ _ _, fun _ ht => by simp at ht, List.Pairwise.nil, Nat.le_refl _⟩

theorem RRep.slice {w : World} {B b : Nat} {lim used : Int} {sv : Value} {rk rn : Int} {U : List RT} (h : RRep w B b lim used sv rk rn U) : ∃ a c, sv = .slice a U.length c := by
  rcases h.row.2 with ⟨e1, e2⟩ | ⟨g, cap, cur, e, _⟩
  · exact ⟨none, 0, by rw [e1, e2]⟩
  · exact ⟨_, cap, e⟩

/-- A value that names no thing. -/
def badN (n0 : Nat) (k n : Int) : Prop := ¬ (k = 2 ∧ 0 ≤ n ∧ n < n0)

set_option maxHeartbeats 400000 in
theorem At_kind {w : World} {b : Nat} (k n : Int) (h : k ≠ 2) :
    Calls Tryd.prog 37 #[.pointer (some ⟨b, 0, none⟩), .agg #[.int .i64 k, .int .i64 n]] w fun e w' => e = .returned (.int .i64 (-1)) ∧ Fr [] w w' := by
  have h3 : (k != 2) = true := by rw [bne_iff_ne]; exact h
  go_enter Tryd.func37, Tryd.ntmps37
  go_wp2
  go_quiet (fail)
  go_wp2
  go_ret
  exact ⟨rfl, Fr.drewN ((Fr.refl _ _).alloc _) _⟩

set_option maxHeartbeats 400000 in
theorem At_neg {w : World} {b : Nat} (n : Int) (h1 : n < 0) :
    Calls Tryd.prog 37 #[.pointer (some ⟨b, 0, none⟩), .agg #[.int .i64 2, .int .i64 n]] w fun e w' => e = .returned (.int .i64 (-1)) ∧ Fr [] w w' := by
  have hd : decide (n < 0) = true := by simpa using h1
  go_enter Tryd.func37, Tryd.ntmps37
  go_wp2
  go_quiet (fail)
  go_wp2
  go_ret
  exact ⟨rfl, Fr.drewN ((Fr.refl _ _).alloc _) _⟩

set_option maxHeartbeats 400000 in
theorem At_big {w : World} {B b : Nat} {lim used : Int} {sv : Value} {rk rn : Int} {U : List RT} (R : RRep w B b lim used sv rk rn U) (n : Int) (h0 : 0 ≤ n) (h1 : (U.length : Int) ≤ n) :
    Calls Tryd.prog 37 #[.pointer (some ⟨b, 0, none⟩), .agg #[.int .i64 2, .int .i64 n]] w fun e w' => e = .returned (.int .i64 (-1)) ∧ Fr [] w w' := by
  obtain ⟨a, c, rfl⟩ := R.slice
  have c3 := fun o => (R.hb.fr (S := []) ((Fr.refl _ _).alloc o) (by simp)).c0
  have hd : decide (n < 0) = false := by simpa using h0
  have hd2 : decide ((U.length : Int) ≤ n) = true := by simpa using h1
  have hlt := R.hb.lt
  go_enter Tryd.func37, Tryd.ntmps37
  go_wp2
  go_quiet (fail)
  go_wp2
  go_ret
  exact ⟨rfl, Fr.drewN ((Fr.refl _ _).alloc _) _⟩

set_option maxHeartbeats 400000 in
theorem At_ok {w : World} {B b : Nat} {lim used : Int} {sv : Value} {rk rn : Int} {U : List RT} (R : RRep w B b lim used sv rk rn U) (n : Int) (h0 : 0 ≤ n) (h1 : n < (U.length : Int)) :
    Calls Tryd.prog 37 #[.pointer (some ⟨b, 0, none⟩), .agg #[.int .i64 2, .int .i64 n]] w fun e w' => e = .returned (.int .i64 n) ∧ Fr [] w w' := by
  obtain ⟨a, c, rfl⟩ := R.slice
  have c3 := fun o => (R.hb.fr (S := []) ((Fr.refl _ _).alloc o) (by simp)).c0
  have hd : decide (n < 0) = false := by simpa using h0
  have hd2 : decide ((U.length : Int) ≤ n) = false := by simpa using h1
  have hlt := R.hb.lt
  go_enter Tryd.func37, Tryd.ntmps37
  go_wp2
  go_quiet (fail)
  go_wp2
  go_ret
  exact ⟨rfl, Fr.drewN ((Fr.refl _ _).alloc _) _⟩

theorem At_bad {w : World} {B b : Nat} {lim used : Int} {sv : Value} {rk rn : Int} {U : List RT} (R : RRep w B b lim used sv rk rn U) (k n : Int) (h : badN U.length k n) :
    Calls Tryd.prog 37 #[.pointer (some ⟨b, 0, none⟩), .agg #[.int .i64 k, .int .i64 n]] w fun e w' => e = .returned (.int .i64 (-1)) ∧ Fr [] w w' := by
  by_cases h2 : k = 2
  · subst h2
    by_cases h3 : n < 0
    · exact At_neg n h3
    · exact At_big R n (by omega) (by unfold badN at h; omega)
  · exact At_kind k n h2

set_option maxHeartbeats 400000 in
theorem Ref_any (w : World) (n : Int) : Calls Tryd.prog 56 #[.int .i64 n] w fun e w' => e = .returned (.agg #[.int .i64 2, .int .i64 n]) ∧ Fr [] w w' := by
  go_enter Tryd.func56, Tryd.ntmps56
  go_wp2
  refine bodyPost_ret (v := .agg #[.int .i64 2, .int .i64 n]) (by simp [results, Tryd.results56, go_sem]) rfl ⟨rfl, ?_⟩
  exact (Fr.refl _ _).alloc _
end Go.Proofs.YtefkcmeeagflmaaDoor
