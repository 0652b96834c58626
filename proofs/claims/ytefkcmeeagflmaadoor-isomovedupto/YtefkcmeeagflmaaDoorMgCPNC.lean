/-
  Texts of the proof, in their order: IsoF, IsoG, IsoH, IsoI, IsoJ, IsoK, IsoL, IsoM; conditions: as each says.
-/
import Derived.Maps.OwnSet
import Derived.DeepKeys4
import Derived.Test.YtefkcmeeagflmaaDoorMgJFNH
namespace Go.Proofs.YtefkcmeeagflmaaDoor
open Go.RowKit Go.Shelf Go.Maps Go.ChangeShapes

theorem laidOut : laidOutB Tryd.prog = true := by kernel_rfl
theorem row110 : (110 : TypeId) < Tryd.prog.types.size := of_decide_eq_true (by kernel_rfl)
theorem cells110 : Tryd.prog.cellsOf 110 = 2 := by kernel_rfl
theorem cells4 : Tryd.prog.cellsOf 4 = 1 := by kernel_rfl
theorem cells2 : Tryd.prog.cellsOf 2 = 1 := by kernel_rfl
set_option maxRecDepth 100000 in
theorem wide110 : (match Tryd.prog.underlying 110 with | some (.array _ _) | some (.struct _) => true | _ => false) = true := by rw [Tryd.underlying110]
set_option maxRecDepth 100000 in
theorem law110 : Keyed Tryd.prog 110 := Keyed.of_law (deep_law_laid laidOut (m := 2) (by omega) row110 (by kernel_rfl) wide110)
theorem deep110 : Tryd.prog.keyTypeAt (Tryd.prog.types.size + 1) 110 = true := by kernel_rfl
theorem zero2 (w : World) : (zeroValue 2).run Tryd.prog w = .ok (.int .i64 0) w := by kernel_rfl
theorem under50 : Tryd.prog.underlying 50 = some (.map 110 2) := by kernel_rfl
set_option maxRecDepth 100000 in
theorem formed110 {c0 c1 : Value} : (Value.agg #[c0, c1]).formed Tryd.prog 110 = true := by simp [Value.formed, Tryd.underlying110, cells110]

def keyV (s : Bool) (k : Int) : Value := .agg #[.bool s, .int .i64 k]
def keyL (s : Bool) (k : Int) : Lit := (DataW.agg (H := Unit) [.lit (.bool s), .lit (.int .i64 k)]).asKey

set_option maxRecDepth 100000 in
theorem keyOf110 (W : World) (s : Bool) (k : Int) (hk : (Lit.int .i64 k).wf = true) : keyOf Tryd.prog 110 (keyV s k) = some (keyL s k) := by
  refine (keyOf_asKey (H := Unit) (enc := fun _ => ()) (w := W) (base := 0) (sp := fun _ => true) (held := true) deep110 wide110 formed110 (d := .agg [.lit (.bool s), .lit (.int .i64 k)]) (ps := []) ?_).1
  refine ⟨2, ?_⟩
  have h0 : DataW.trod (H := Unit) (fun _ => ()) Tryd.prog W 0 (fun _ => true) true 1 4 [.bool s] = some (.lit (.bool s), []) := by simp [DataW.trod, Tryd.underlying4]
  have h1 : DataW.trod (H := Unit) (fun _ => ()) Tryd.prog W 0 (fun _ => true) true 1 2 [.int .i64 k] = some (.lit (.int .i64 k), []) := by simp [DataW.trod, Tryd.underlying2, hk]
  have := trod_struct2_mk (enc := fun _ => ()) (w := W) (base := 0) (spare := fun _ => true) (held := true) (n := 1) (cs := [.bool s, .int .i64 k]) Tryd.underlying110 (by rw [cells110]; rfl) (by simpa [cells4] using h0) (by simpa [cells2] using h1)
  simpa [keyV, Value.cells] using this

theorem keyL_inj (W : World) {s s' : Bool} {k k' : Int} (hk : (Lit.int .i64 k).wf = true) (hk' : (Lit.int .i64 k').wf = true) (h : keyL s k = keyL s' k') : s = s' ∧ k = k' := by
  have := law110.inj (keyOf110 W s k hk) (by rw [h]; exact keyOf110 W s' k' hk')
  simpa [keyV] using this

/-- A map of things that stand for one another. -/
def MapAt (W : World) (mb n : Nat) (f : Bool → Int → Option Int) : Prop :=
  ∃ D : DataW Unit, W.ownsMap Tryd.prog 110 (plainElem Tryd.prog 2) mb n D ∧ ∀ s k, (Lit.int .i64 k).wf = true → Maps.has D (keyL s k) = (f s k).isSome ∧ D.atKey (keyL s k) (.lit (.int .i64 0)) = .lit (.int .i64 ((f s k).getD 0))

def upd (f : Bool → Int → Option Int) (s : Bool) (k v : Int) : Bool → Int → Option Int := fun s' k' => if s' = s ∧ k' = k then some v else f s' k'

theorem MapAt.fr {S : List Nat} {W W' : World} {mb n : Nat} {f : Bool → Int → Option Int} (h : MapAt W mb n f) (g : Fr S W W') (hS : mb ∉ S) : MapAt W' mb n f := by
  obtain ⟨D, ⟨es, clock, hb, r⟩, hD⟩ := h
  exact ⟨D, ⟨es, clock, (g.block mb (Array.getElem?_eq_some_iff.1 hb).1 hS).trans hb, r⟩, hD⟩

theorem MapAt.no_cells {W : World} {mb n : Nat} {f : Bool → Int → Option Int} (h : MapAt W mb n f) : ∀ c t z, W.heap[mb]? ≠ some (.cells c t z) := by
  obtain ⟨D, ⟨es, clock, hb, _⟩, _⟩ := h
  intro c t z e
  rw [hb] at e
  simp at e

theorem MapAt.put {W : World} {mb n : Nat} {f : Bool → Int → Option Int} {D : DataW Unit} (W0 : World) (h0 : W0.ownsMap Tryd.prog 110 (plainElem Tryd.prog 2) mb n D) (hD : ∀ s k, (Lit.int .i64 k).wf = true → Maps.has D (keyL s k) = (f s k).isSome ∧ D.atKey (keyL s k) (.lit (.int .i64 0)) = .lit (.int .i64 ((f s k).getD 0)))
    {s : Bool} {k v : Int} (hk : (Lit.int .i64 k).wf = true) (h : W.ownsMap Tryd.prog 110 (plainElem Tryd.prog 2) mb (n + 1) (D.put (keyL s k) (.lit (.int .i64 v)))) : MapAt W mb (n + 1) (upd f s k v) := by
  refine ⟨_, h, fun s' k' hk' => ?_⟩
  have hi := h0.isMap
  have hkey := law110.key (keyOf110 W0 s k hk)
  unfold upd
  by_cases e : s' = s ∧ k' = k
  · obtain ⟨rfl, rfl⟩ := e
    simp [has_put_same hi hkey, atKey_put_same hi hkey]
  · have hne : keyL s' k' ≠ keyL s k := fun h' => e (keyL_inj W0 hk' hk h')
    rw [if_neg e, has_put_other hne, atKey_put_other hne]
    exact hD s' k' hk'
end Go.Proofs.YtefkcmeeagflmaaDoor
namespace Go.Proofs.YtefkcmeeagflmaaDoor
open Go.RowKit Go.Shelf Go.Maps

theorem at_cells {w : World} {k : Nat} {c : Array Value} {t : TypeId} {z : Nat × Nat} (h : w.heap[k]? = some (.cells c t z)) (i : Nat) {u : Value} (hu : c[i]? = some u) : w.cell? ⟨k, i, none⟩ = some u := by simp [World.cell?, h, hu]

theorem own_low {w : World} {B B' n : Nat} {e : TypeId} {size : Nat} {v : Value} {xs : List Value} (h : w.ownsRow B e size v n xs) (hB : B' ≤ B) : w.ownsRow B' e size v n xs :=
  ⟨h.1, h.2.imp id (fun ⟨g, cap, cur, e1, e2, r⟩ => ⟨g, cap, cur, e1, Nat.le_trans hB e2, r⟩)⟩

/-- A match as a value. -/
def matV (a b mb : Nat) : Array Value := #[.pointer (some ⟨a, 0, none⟩), .pointer (some ⟨b, 0, none⟩), .map (some mb)]
/-- A pair's value. -/
def pairV (p q : Int × Int) : Array Value := #[.int .i64 p.1, .int .i64 p.2, .int .i64 q.1, .int .i64 q.2]

set_option maxRecDepth 100000 in
set_option maxHeartbeats 2000000 in
theorem join_ok {W : World} {Ba Bb a b : Nat} {la ua ka na lb ub kb nb : Int} {sa sb : Value} {TA TB : List Thing} (RA : Rep W Ba a la ua sa ka na TA) (RB : Rep W Bb b lb ub sb kb nb TB) {mb n : Nat} {f : Bool → Int → Option Int} (M : MapAt W mb n f) (hn : n ≤ 1000000000)
    (i j : Nat) (t u : Thing) (ht : TA[i]? = some t) (hu : TB[j]? = some u) (hst : -1 ≤ t.sort) (hsu : -1 ≤ u.sort) (hlt : (t.cells.length : Int) ≤ 1000000) (hs : u.sort = t.sort) (hl : u.cells.length = t.cells.length) (hi : (Lit.int .i64 i).wf = true) (hj : (Lit.int .i64 j).wf = true) :
    Calls Tryd.prog 45 #[.agg (matV a b mb), .agg (pairV (2, (i : Int)) (2, (j : Int)))] W fun e W' => ∃ v, e = .returned (.tuple #[v, .bool true]) ∧ Fr [mb] W W' ∧ MapAt W' mb (n + 2) (upd (upd f false i j) true j i) ∧ W'.ownsRow W.heap.size 59 4 v t.cells.length (zipP t.cells u.cells).flatten := by
  unfold matV pairV
  have HS : Hid (u.sort = t.sort) := hs
  have HL : Hid (u.cells.length = t.cells.length) := hl
  clear hs hl
  have hlt' : t.cells.length ≤ 10000000 := by omega
  go_enter Tryd.func45, Tryd.ntmps45
  go_wp2_with fail
  have f0 : Fr [] W ((W.alloc (.cells #[.pointer (some ⟨a, 0, none⟩), .pointer (some ⟨b, 0, none⟩), .map (some mb)] 52)).alloc (.cells #[.int .i64 2, .int .i64 (i : Int), .int .i64 2, .int .i64 (j : Int)] 59)) := ((Fr.refl _ _).alloc _).alloc _
  have hM0 : ((W.alloc (.cells #[.pointer (some ⟨a, 0, none⟩), .pointer (some ⟨b, 0, none⟩), .map (some mb)] 52)).alloc (.cells #[.int .i64 2, .int .i64 (i : Int), .int .i64 2, .int .i64 (j : Int)] 59)).heap[W.heap.size]? = some (.cells #[.pointer (some ⟨a, 0, none⟩), .pointer (some ⟨b, 0, none⟩), .map (some mb)] 52) := (Below.heap_alloc _ _ _ (by simp)).trans (heap_alloc_new W _)
  have hP0 := blk2 W (.cells #[.pointer (some ⟨a, 0, none⟩), .pointer (some ⟨b, 0, none⟩), .map (some mb)] 52) (.cells #[.int .i64 2, .int .i64 (i : Int), .int .i64 2, .int .i64 (j : Int)] 59)
  generalize (W.alloc (.cells #[.pointer (some ⟨a, 0, none⟩), .pointer (some ⟨b, 0, none⟩), .map (some mb)] 52)).alloc (.cells #[.int .i64 2, .int .i64 (i : Int), .int .i64 2, .int .i64 (j : Int)] 59) = w0 at *
  generalize W.heap.size + 1 = kP at *
  obtain ⟨N, hN⟩ : ∃ N, W.heap.size = N := ⟨_, rfl⟩
  rw [hN] at hM0 ⊢
  have hNl : N < w0.heap.size := (Array.getElem?_eq_some_iff.1 hM0).1
  have hPl : kP < w0.heap.size := (Array.getElem?_eq_some_iff.1 hP0).1
  refine (Obj_ok (RA.frame f0 (by simp)) i t ht hst hlt').mono ?_
  rintro e w1 ⟨g1, rfl, f1, hg1, hrow1⟩
  have F1 := fun o => f1.alloc o
  have hM1 := fun o => ((F1 o).block N hNl (by simp)).trans hM0
  have hP1 := fun o => ((F1 o).block kP hPl (by simp)).trans hP0
  have m1 := fun o => at_cells (hM1 o) 1 (u := .pointer (some ⟨b, 0, none⟩)) rfl
  have p2 := fun o => at_cells (hP1 o) 2 (u := .int .i64 2) rfl
  have p3 := fun o => at_cells (hP1 o) 3 (u := .int .i64 (j : Int)) rfl
  go_wp2_with fail
  have hb1 : (w1.alloc (.cells #[.int .i64 t.sort, .slice (some ⟨g1, 0, none⟩) t.cells.length t.cells.length] 41)).heap[w1.heap.size]? = some (.cells #[.int .i64 t.sort, .slice (some ⟨g1, 0, none⟩) t.cells.length t.cells.length] 41) := heap_alloc_new w1 _
  have fw1 : Fr [] w1 (w1.alloc (.cells #[.int .i64 t.sort, .slice (some ⟨g1, 0, none⟩) t.cells.length t.cells.length] 41)) := (Fr.refl _ _).alloc _
  have f2' := f0.trans (F1 (.cells #[.int .i64 t.sort, .slice (some ⟨g1, 0, none⟩) t.cells.length t.cells.length] 41))
  have hM2 := hM1 (.cells #[.int .i64 t.sort, .slice (some ⟨g1, 0, none⟩) t.cells.length t.cells.length] 41)
  have hP2 := hP1 (.cells #[.int .i64 t.sort, .slice (some ⟨g1, 0, none⟩) t.cells.length t.cells.length] 41)
  have nG1 : g1 ≠ mb := fun e => (M.fr (f0.trans f1) (by simp)).no_cells _ _ _ (e ▸ hrow1)
  have hr1 := row_lies hrow1
  have hr1' := hr1.fr fw1 (by simp)
  clear F1 hM1 hP1 m1 p2 p3
  generalize w1.alloc (.cells #[.int .i64 t.sort, .slice (some ⟨g1, 0, none⟩) t.cells.length t.cells.length] 41) = w2 at *
  generalize w1.heap.size = k1 at *
  refine (Obj_ok (RB.frame f2' (by simp)) j u hu hsu (by have := HL.out; omega)).mono ?_
  rw [HS.out, HL.out]
  rintro e w3 ⟨g2, rfl, f3, hg2, hrow2⟩
  have nG2 : g2 ≠ mb := fun e => (M.fr (f2'.trans f3) (by simp)).no_cells _ _ _ (e ▸ hrow2)
  have fw3 : Fr [] w2 (w3.alloc (.cells #[.int .i64 t.sort, .slice (some ⟨g2, 0, none⟩) t.cells.length t.cells.length] 41)) := f3.alloc _
  have hb3 : (w3.alloc (.cells #[.int .i64 t.sort, .slice (some ⟨g2, 0, none⟩) t.cells.length t.cells.length] 41)).heap[w3.heap.size]? = some (.cells #[.int .i64 t.sort, .slice (some ⟨g2, 0, none⟩) t.cells.length t.cells.length] 41) := heap_alloc_new w3 _
  have hr2 : Lies (w3.alloc (.cells #[.int .i64 t.sort, .slice (some ⟨g2, 0, none⟩) t.cells.length t.cells.length] 41)) (some ⟨g2, 0, none⟩) u.cells := (row_lies hrow2).fr ((Fr.refl [] w3).alloc _) (by simp)
  have F4 := f2'.trans fw3
  have hM4 := (fw3.block N (by have := f1.size; have := fw1.size; omega) (by simp)).trans hM2
  have hP4 := (fw3.block kP (by have := f1.size; have := fw1.size; omega) (by simp)).trans hP2
  have hb4 := (fw3.block k1 (Array.getElem?_eq_some_iff.1 hb1).1 (by simp)).trans hb1
  have hr4 := hr1'.fr fw3 (by simp)
  have M4 := M.fr F4 (by simp)
  clear hM2 hP2 hM0 hP0 hr1 hr1' hrow1 hrow2
  have y0 := at_cells hb4 0 rfl
  have y1 := at_cells hb4 1 rfl
  have m2 := at_cells hM4 2 rfl
  have p1 := at_cells hP4 1 rfl
  have p3 := at_cells hP4 3 rfl
  have nM : N ≠ mb := fun e => M4.no_cells _ _ _ (e ▸ hM4)
  have nP : kP ≠ mb := fun e => M4.no_cells _ _ _ (e ▸ hP4)
  have n1 : k1 ≠ mb := fun e => M4.no_cells _ _ _ (e ▸ hb4)
  have n3 : w3.heap.size ≠ mb := fun e => M4.no_cells _ _ _ (e ▸ hb3)
  obtain ⟨D, hown, hD⟩ := M4
  go_wp2_with (at_mapUpdate; refine wpList_mapUpdate_own _ rfl _ _ _ 50 rfl 110 2 law110 under50 _ mb n D rfl hown (by have : maxLen = 9223372036854775807 := rfl; omega) _ _ _ rfl rfl (keyOf110 W false (i : Int) hi) _ [] (plainElem_int Tryd.underlying2 hj) ?_)
  intro w5 hown5 hg5
  have M5 := MapAt.put _ hown hD hi hown5
  have f5 : Fr [mb] (w3.alloc (.cells #[.int .i64 t.sort, .slice (some ⟨g2, 0, none⟩) t.cells.length t.cells.length] 41)) w5 := Fr.ofGrown hg5
  have hM5 := (f5.block N (Array.getElem?_eq_some_iff.1 hM4).1 (by simpa using nM)).trans hM4
  have hP5 := (f5.block kP (Array.getElem?_eq_some_iff.1 hP4).1 (by simpa using nP)).trans hP4
  have hb5 := (f5.block k1 (Array.getElem?_eq_some_iff.1 hb4).1 (by simpa using n1)).trans hb4
  have hc5 := (f5.block w3.heap.size (Array.getElem?_eq_some_iff.1 hb3).1 (by simpa using n3)).trans hb3
  have F5 : Fr [mb] W w5 := (F4.sub (by simp)).trans f5
  have hr5 : Lies w5 (some ⟨g1, 0, none⟩) t.cells := hr4.fr f5 (fun ad e => by cases e; simpa using nG1)
  have hq5 : Lies w5 (some ⟨g2, 0, none⟩) u.cells := hr2.fr f5 (fun ad e => by cases e; simpa using nG2)
  generalize w3.heap.size = k3 at *
  have y2 := at_cells hM5 2 rfl
  have y3 := at_cells hP5 1 rfl
  have y4 := at_cells hP5 3 rfl
  obtain ⟨D5, own5, hD5⟩ := M5
  clear y0 y1 m2 p1 p3 hM4 hP4 hb4 hb3 hown5 hown hg5 hD
  go_wp2_with (at_mapUpdate; refine wpList_mapUpdate_own _ rfl _ _ _ 50 rfl 110 2 law110 under50 _ mb (n + 1) D5 rfl own5 (by have : maxLen = 9223372036854775807 := rfl; omega) _ _ _ rfl rfl (keyOf110 W true (j : Int) hj) _ [] (plainElem_int Tryd.underlying2 hi) ?_)
  intro w6 hown6 hg6
  have M6 := MapAt.put _ own5 hD5 hj hown6
  have f6 : Fr [mb] w5 w6 := Fr.ofGrown hg6
  have hb6 := (f6.block k1 (Array.getElem?_eq_some_iff.1 hb5).1 (by simpa using n1)).trans hb5
  have hc6 := (f6.block k3 (Array.getElem?_eq_some_iff.1 hc5).1 (by simpa using n3)).trans hc5
  have hr6 : Lies w6 (some ⟨g1, 0, none⟩) t.cells := hr5.fr f6 (fun ad e => by cases e; simpa using nG1)
  have hq6 : Lies w6 (some ⟨g2, 0, none⟩) u.cells := hq5.fr f6 (fun ad e => by cases e; simpa using nG2)
  have F6 := F5.trans f6
  have z1 := at_cells hb6 1 rfl
  have z3 := at_cells hc6 1 rfl
  clear y2 y3 y4 hown6 hg6 own5 hD5
  go_wp2_with fail
  refine (pairs_any w6 t.cells u.cells t.cells.length rfl HL.out _ _ _ _ hr6 hq6 hlt).mono ?_
  rintro e w7 ⟨v, rfl, f7, ho7⟩
  go_wp2
  refine bodyPost_ret (v := .tuple #[v, .bool true]) (by simp [results, Tryd.results45, go_sem]) rfl ⟨v, rfl, F6.trans (f7.sub (by simp)), M6.fr f7 (by simp), ?_⟩
  exact own_low ho7 (by have := F6.size; omega)
end Go.Proofs.YtefkcmeeagflmaaDoor
namespace Go.Proofs.YtefkcmeeagflmaaDoor
open Go.RowKit Go.Shelf Go.Maps

set_option maxRecDepth 100000 in
set_option maxHeartbeats 1000000 in
theorem join_same {W : World} {Ba Bb a b : Nat} {la ua ka na lb ub kb nb : Int} {sa sb : Value} {TA TB : List Thing} (RA : Rep W Ba a la ua sa ka na TA) (RB : Rep W Bb b lb ub sb kb nb TB) (mb : Nat) (x : Int) (hx : bad TA 2 x) (hy : bad TB 2 x) :
    Calls Tryd.prog 45 #[.agg (matV a b mb), .agg (pairV (2, x) (2, x))] W fun e W' => e = .returned (.tuple #[.slice none 0 0, .bool true]) ∧ Fr [] W W' := by
  unfold matV pairV
  go_enter Tryd.func45, Tryd.ntmps45
  go_wp2_with fail
  have f0 : Fr [] W ((W.alloc (.cells #[.pointer (some ⟨a, 0, none⟩), .pointer (some ⟨b, 0, none⟩), .map (some mb)] 52)).alloc (.cells #[.int .i64 2, .int .i64 x, .int .i64 2, .int .i64 x] 59)) := ((Fr.refl _ _).alloc _).alloc _
  have hM0 : ((W.alloc (.cells #[.pointer (some ⟨a, 0, none⟩), .pointer (some ⟨b, 0, none⟩), .map (some mb)] 52)).alloc (.cells #[.int .i64 2, .int .i64 x, .int .i64 2, .int .i64 x] 59)).heap[W.heap.size]? = some (.cells #[.pointer (some ⟨a, 0, none⟩), .pointer (some ⟨b, 0, none⟩), .map (some mb)] 52) := (Below.heap_alloc _ _ _ (by simp)).trans (heap_alloc_new W _)
  have hP0 := blk2 W (.cells #[.pointer (some ⟨a, 0, none⟩), .pointer (some ⟨b, 0, none⟩), .map (some mb)] 52) (.cells #[.int .i64 2, .int .i64 x, .int .i64 2, .int .i64 x] 59)
  generalize (W.alloc (.cells #[.pointer (some ⟨a, 0, none⟩), .pointer (some ⟨b, 0, none⟩), .map (some mb)] 52)).alloc (.cells #[.int .i64 2, .int .i64 x, .int .i64 2, .int .i64 x] 59) = w0 at *
  generalize W.heap.size + 1 = kP at *
  generalize W.heap.size = N at *
  have hNl : N < w0.heap.size := (Array.getElem?_eq_some_iff.1 hM0).1
  have hPl : kP < w0.heap.size := (Array.getElem?_eq_some_iff.1 hP0).1
  refine (Obj_no (RA.frame f0 (by simp)) 2 x hx).mono ?_
  rintro e w1 ⟨rfl, f1⟩
  have F1 := fun o => f1.alloc o
  have hM1 := fun o => ((F1 o).block N hNl (by simp)).trans hM0
  have hP1 := fun o => ((F1 o).block kP hPl (by simp)).trans hP0
  have m1 := fun o => at_cells (hM1 o) 1 (u := .pointer (some ⟨b, 0, none⟩)) rfl
  have p2 := fun o => at_cells (hP1 o) 2 (u := .int .i64 2) rfl
  have p3 := fun o => at_cells (hP1 o) 3 (u := .int .i64 x) rfl
  go_wp2_with fail
  have hb1 : (w1.alloc (.cells #[.int .i64 0, .slice none 0 0] 41)).heap[w1.heap.size]? = some (.cells #[.int .i64 0, .slice none 0 0] 41) := heap_alloc_new w1 _
  have fw1 : Fr [] w1 (w1.alloc (.cells #[.int .i64 0, .slice none 0 0] 41)) := (Fr.refl _ _).alloc _
  have f2' := f0.trans (F1 (.cells #[.int .i64 0, .slice none 0 0] 41))
  have hP2 := hP1 (.cells #[.int .i64 0, .slice none 0 0] 41)
  clear F1 hM1 hP1 m1 p2 p3
  generalize w1.alloc (.cells #[.int .i64 0, .slice none 0 0] 41) = w2 at *
  generalize w1.heap.size = k1 at *
  refine (Obj_no (RB.frame f2' (by simp)) 2 x hy).mono ?_
  rintro e w3 ⟨rfl, f3⟩
  have fw3 : Fr [] w2 (w3.alloc (.cells #[.int .i64 0, .slice none 0 0] 41)) := f3.alloc _
  have F4 := f2'.trans fw3
  have hP4 := (fw3.block kP (by have := f1.size; have := fw1.size; omega) (by simp)).trans hP2
  have hb4 := (fw3.block k1 (Array.getElem?_eq_some_iff.1 hb1).1 (by simp)).trans hb1
  have y0 := at_cells hb4 0 rfl
  have y1 := at_cells hb4 1 rfl
  have q0 := at_cells hP4 0 rfl
  have q1 := at_cells hP4 1 rfl
  have q2 := at_cells hP4 2 rfl
  have q3 := at_cells hP4 3 rfl
  go_wp2_with fail
  go_quiet (fail)
  go_wp2
  refine bodyPost_ret (v := .tuple #[.slice none 0 0, .bool true]) (by simp [results, Tryd.results45, go_sem]) rfl ⟨rfl, F4.drewN _⟩

set_option maxRecDepth 100000 in
set_option maxHeartbeats 1000000 in
theorem join_diff {W : World} {Ba Bb a b : Nat} {la ua ka na lb ub kb nb : Int} {sa sb : Value} {TA TB : List Thing} (RA : Rep W Ba a la ua sa ka na TA) (RB : Rep W Bb b lb ub sb kb nb TB) (mb : Nat) (x : Int) (hx : bad TA 2 x) (y : Int) (hy : bad TB 2 y) (hxy : (x == y) = false) :
    Calls Tryd.prog 45 #[.agg (matV a b mb), .agg (pairV (2, x) (2, y))] W fun e W' => e = .returned (.tuple #[.slice none 0 0, .bool false]) ∧ Fr [] W W' := by
  unfold matV pairV
  go_enter Tryd.func45, Tryd.ntmps45
  go_wp2_with fail
  have f0 : Fr [] W ((W.alloc (.cells #[.pointer (some ⟨a, 0, none⟩), .pointer (some ⟨b, 0, none⟩), .map (some mb)] 52)).alloc (.cells #[.int .i64 2, .int .i64 x, .int .i64 2, .int .i64 y] 59)) := ((Fr.refl _ _).alloc _).alloc _
  have hM0 : ((W.alloc (.cells #[.pointer (some ⟨a, 0, none⟩), .pointer (some ⟨b, 0, none⟩), .map (some mb)] 52)).alloc (.cells #[.int .i64 2, .int .i64 x, .int .i64 2, .int .i64 y] 59)).heap[W.heap.size]? = some (.cells #[.pointer (some ⟨a, 0, none⟩), .pointer (some ⟨b, 0, none⟩), .map (some mb)] 52) := (Below.heap_alloc _ _ _ (by simp)).trans (heap_alloc_new W _)
  have hP0 := blk2 W (.cells #[.pointer (some ⟨a, 0, none⟩), .pointer (some ⟨b, 0, none⟩), .map (some mb)] 52) (.cells #[.int .i64 2, .int .i64 x, .int .i64 2, .int .i64 y] 59)
  generalize (W.alloc (.cells #[.pointer (some ⟨a, 0, none⟩), .pointer (some ⟨b, 0, none⟩), .map (some mb)] 52)).alloc (.cells #[.int .i64 2, .int .i64 x, .int .i64 2, .int .i64 y] 59) = w0 at *
  generalize W.heap.size + 1 = kP at *
  generalize W.heap.size = N at *
  have hNl : N < w0.heap.size := (Array.getElem?_eq_some_iff.1 hM0).1
  have hPl : kP < w0.heap.size := (Array.getElem?_eq_some_iff.1 hP0).1
  refine (Obj_no (RA.frame f0 (by simp)) 2 x hx).mono ?_
  rintro e w1 ⟨rfl, f1⟩
  have F1 := fun o => f1.alloc o
  have hM1 := fun o => ((F1 o).block N hNl (by simp)).trans hM0
  have hP1 := fun o => ((F1 o).block kP hPl (by simp)).trans hP0
  have m1 := fun o => at_cells (hM1 o) 1 (u := .pointer (some ⟨b, 0, none⟩)) rfl
  have p2 := fun o => at_cells (hP1 o) 2 (u := .int .i64 2) rfl
  have p3 := fun o => at_cells (hP1 o) 3 (u := .int .i64 y) rfl
  go_wp2_with fail
  have hb1 : (w1.alloc (.cells #[.int .i64 0, .slice none 0 0] 41)).heap[w1.heap.size]? = some (.cells #[.int .i64 0, .slice none 0 0] 41) := heap_alloc_new w1 _
  have fw1 : Fr [] w1 (w1.alloc (.cells #[.int .i64 0, .slice none 0 0] 41)) := (Fr.refl _ _).alloc _
  have f2' := f0.trans (F1 (.cells #[.int .i64 0, .slice none 0 0] 41))
  have hP2 := hP1 (.cells #[.int .i64 0, .slice none 0 0] 41)
  clear F1 hM1 hP1 m1 p2 p3
  generalize w1.alloc (.cells #[.int .i64 0, .slice none 0 0] 41) = w2 at *
  generalize w1.heap.size = k1 at *
  refine (Obj_no (RB.frame f2' (by simp)) 2 y hy).mono ?_
  rintro e w3 ⟨rfl, f3⟩
  have fw3 : Fr [] w2 (w3.alloc (.cells #[.int .i64 0, .slice none 0 0] 41)) := f3.alloc _
  have F4 := f2'.trans fw3
  have hP4 := (fw3.block kP (by have := f1.size; have := fw1.size; omega) (by simp)).trans hP2
  have hb4 := (fw3.block k1 (Array.getElem?_eq_some_iff.1 hb1).1 (by simp)).trans hb1
  have y0 := at_cells hb4 0 rfl
  have y1 := at_cells hb4 1 rfl
  have q0 := at_cells hP4 0 rfl
  have q1 := at_cells hP4 1 rfl
  have q2 := at_cells hP4 2 rfl
  have q3 := at_cells hP4 3 rfl
  go_wp2_with fail
  go_quiet (fail)
  go_wp2
  refine bodyPost_ret (v := .tuple #[.slice none 0 0, .bool false]) (by simp [results, Tryd.results45, go_sem]) rfl ⟨rfl, F4.drewN _⟩

set_option maxRecDepth 100000 in
set_option maxHeartbeats 1000000 in
theorem join_left {W : World} {Ba Bb a b : Nat} {la ua ka na lb ub kb nb : Int} {sa sb : Value} {TA TB : List Thing} (RA : Rep W Ba a la ua sa ka na TA) (RB : Rep W Bb b lb ub sb kb nb TB) (mb : Nat) (i : Nat) (t : Thing) (ht : TA[i]? = some t) (hst : -1 ≤ t.sort) (hlt : t.cells.length ≤ 10000000) (y : Int) (hy : bad TB 2 y) :
    Calls Tryd.prog 45 #[.agg (matV a b mb), .agg (pairV (2, (i : Int)) (2, y))] W fun e W' => e = .returned (.tuple #[.slice none 0 0, .bool false]) ∧ Fr [] W W' := by
  unfold matV pairV
  go_enter Tryd.func45, Tryd.ntmps45
  go_wp2_with fail
  have f0 : Fr [] W ((W.alloc (.cells #[.pointer (some ⟨a, 0, none⟩), .pointer (some ⟨b, 0, none⟩), .map (some mb)] 52)).alloc (.cells #[.int .i64 2, .int .i64 (i : Int), .int .i64 2, .int .i64 y] 59)) := ((Fr.refl _ _).alloc _).alloc _
  have hM0 : ((W.alloc (.cells #[.pointer (some ⟨a, 0, none⟩), .pointer (some ⟨b, 0, none⟩), .map (some mb)] 52)).alloc (.cells #[.int .i64 2, .int .i64 (i : Int), .int .i64 2, .int .i64 y] 59)).heap[W.heap.size]? = some (.cells #[.pointer (some ⟨a, 0, none⟩), .pointer (some ⟨b, 0, none⟩), .map (some mb)] 52) := (Below.heap_alloc _ _ _ (by simp)).trans (heap_alloc_new W _)
  have hP0 := blk2 W (.cells #[.pointer (some ⟨a, 0, none⟩), .pointer (some ⟨b, 0, none⟩), .map (some mb)] 52) (.cells #[.int .i64 2, .int .i64 (i : Int), .int .i64 2, .int .i64 y] 59)
  generalize (W.alloc (.cells #[.pointer (some ⟨a, 0, none⟩), .pointer (some ⟨b, 0, none⟩), .map (some mb)] 52)).alloc (.cells #[.int .i64 2, .int .i64 (i : Int), .int .i64 2, .int .i64 y] 59) = w0 at *
  generalize W.heap.size + 1 = kP at *
  generalize W.heap.size = N at *
  have hNl : N < w0.heap.size := (Array.getElem?_eq_some_iff.1 hM0).1
  have hPl : kP < w0.heap.size := (Array.getElem?_eq_some_iff.1 hP0).1
  refine (Obj_ok (RA.frame f0 (by simp)) i t ht hst hlt).mono ?_
  rintro e w1 ⟨g1, rfl, f1, hg1, hrow1⟩
  have F1 := fun o => f1.alloc o
  have hM1 := fun o => ((F1 o).block N hNl (by simp)).trans hM0
  have hP1 := fun o => ((F1 o).block kP hPl (by simp)).trans hP0
  have m1 := fun o => at_cells (hM1 o) 1 (u := .pointer (some ⟨b, 0, none⟩)) rfl
  have p2 := fun o => at_cells (hP1 o) 2 (u := .int .i64 2) rfl
  have p3 := fun o => at_cells (hP1 o) 3 (u := .int .i64 y) rfl
  go_wp2_with fail
  have hb1 : (w1.alloc (.cells #[.int .i64 t.sort, .slice (some ⟨g1, 0, none⟩) t.cells.length t.cells.length] 41)).heap[w1.heap.size]? = some (.cells #[.int .i64 t.sort, .slice (some ⟨g1, 0, none⟩) t.cells.length t.cells.length] 41) := heap_alloc_new w1 _
  have fw1 : Fr [] w1 (w1.alloc (.cells #[.int .i64 t.sort, .slice (some ⟨g1, 0, none⟩) t.cells.length t.cells.length] 41)) := (Fr.refl _ _).alloc _
  have f2' := f0.trans (F1 (.cells #[.int .i64 t.sort, .slice (some ⟨g1, 0, none⟩) t.cells.length t.cells.length] 41))
  have hP2 := hP1 (.cells #[.int .i64 t.sort, .slice (some ⟨g1, 0, none⟩) t.cells.length t.cells.length] 41)
  clear F1 hM1 hP1 m1 p2 p3
  generalize w1.alloc (.cells #[.int .i64 t.sort, .slice (some ⟨g1, 0, none⟩) t.cells.length t.cells.length] 41) = w2 at *
  generalize w1.heap.size = k1 at *
  refine (Obj_no (RB.frame f2' (by simp)) 2 y hy).mono ?_
  rintro e w3 ⟨rfl, f3⟩
  have fw3 : Fr [] w2 (w3.alloc (.cells #[.int .i64 0, .slice none 0 0] 41)) := f3.alloc _
  have F4 := f2'.trans fw3
  have hP4 := (fw3.block kP (by have := f1.size; have := fw1.size; omega) (by simp)).trans hP2
  have hb4 := (fw3.block k1 (Array.getElem?_eq_some_iff.1 hb1).1 (by simp)).trans hb1
  have y0 := at_cells hb4 0 rfl
  have y1 := at_cells hb4 1 rfl
  have q0 := at_cells hP4 0 rfl
  have q1 := at_cells hP4 1 rfl
  have q2 := at_cells hP4 2 rfl
  have q3 := at_cells hP4 3 rfl
  go_wp2
  refine bodyPost_ret (v := .tuple #[.slice none 0 0, .bool false]) (by simp [results, Tryd.results45, go_sem]) rfl ⟨rfl, F4⟩

set_option maxRecDepth 100000 in
set_option maxHeartbeats 1000000 in
theorem join_right {W : World} {Ba Bb a b : Nat} {la ua ka na lb ub kb nb : Int} {sa sb : Value} {TA TB : List Thing} (RA : Rep W Ba a la ua sa ka na TA) (RB : Rep W Bb b lb ub sb kb nb TB) (mb : Nat) (x : Int) (hx : bad TA 2 x) (j : Nat) (u : Thing) (hu : TB[j]? = some u) (hsu : -1 ≤ u.sort) (hlu : u.cells.length ≤ 10000000) :
    Calls Tryd.prog 45 #[.agg (matV a b mb), .agg (pairV (2, x) (2, (j : Int)))] W fun e W' => e = .returned (.tuple #[.slice none 0 0, .bool false]) ∧ Fr [] W W' := by
  unfold matV pairV
  go_enter Tryd.func45, Tryd.ntmps45
  go_wp2_with fail
  have f0 : Fr [] W ((W.alloc (.cells #[.pointer (some ⟨a, 0, none⟩), .pointer (some ⟨b, 0, none⟩), .map (some mb)] 52)).alloc (.cells #[.int .i64 2, .int .i64 x, .int .i64 2, .int .i64 (j : Int)] 59)) := ((Fr.refl _ _).alloc _).alloc _
  have hM0 : ((W.alloc (.cells #[.pointer (some ⟨a, 0, none⟩), .pointer (some ⟨b, 0, none⟩), .map (some mb)] 52)).alloc (.cells #[.int .i64 2, .int .i64 x, .int .i64 2, .int .i64 (j : Int)] 59)).heap[W.heap.size]? = some (.cells #[.pointer (some ⟨a, 0, none⟩), .pointer (some ⟨b, 0, none⟩), .map (some mb)] 52) := (Below.heap_alloc _ _ _ (by simp)).trans (heap_alloc_new W _)
  have hP0 := blk2 W (.cells #[.pointer (some ⟨a, 0, none⟩), .pointer (some ⟨b, 0, none⟩), .map (some mb)] 52) (.cells #[.int .i64 2, .int .i64 x, .int .i64 2, .int .i64 (j : Int)] 59)
  generalize (W.alloc (.cells #[.pointer (some ⟨a, 0, none⟩), .pointer (some ⟨b, 0, none⟩), .map (some mb)] 52)).alloc (.cells #[.int .i64 2, .int .i64 x, .int .i64 2, .int .i64 (j : Int)] 59) = w0 at *
  generalize W.heap.size + 1 = kP at *
  generalize W.heap.size = N at *
  have hNl : N < w0.heap.size := (Array.getElem?_eq_some_iff.1 hM0).1
  have hPl : kP < w0.heap.size := (Array.getElem?_eq_some_iff.1 hP0).1
  refine (Obj_no (RA.frame f0 (by simp)) 2 x hx).mono ?_
  rintro e w1 ⟨rfl, f1⟩
  have F1 := fun o => f1.alloc o
  have hM1 := fun o => ((F1 o).block N hNl (by simp)).trans hM0
  have hP1 := fun o => ((F1 o).block kP hPl (by simp)).trans hP0
  have m1 := fun o => at_cells (hM1 o) 1 (u := .pointer (some ⟨b, 0, none⟩)) rfl
  have p2 := fun o => at_cells (hP1 o) 2 (u := .int .i64 2) rfl
  have p3 := fun o => at_cells (hP1 o) 3 (u := .int .i64 (j : Int)) rfl
  go_wp2_with fail
  have hb1 : (w1.alloc (.cells #[.int .i64 0, .slice none 0 0] 41)).heap[w1.heap.size]? = some (.cells #[.int .i64 0, .slice none 0 0] 41) := heap_alloc_new w1 _
  have fw1 : Fr [] w1 (w1.alloc (.cells #[.int .i64 0, .slice none 0 0] 41)) := (Fr.refl _ _).alloc _
  have f2' := f0.trans (F1 (.cells #[.int .i64 0, .slice none 0 0] 41))
  have hP2 := hP1 (.cells #[.int .i64 0, .slice none 0 0] 41)
  clear F1 hM1 hP1 m1 p2 p3
  generalize w1.alloc (.cells #[.int .i64 0, .slice none 0 0] 41) = w2 at *
  generalize w1.heap.size = k1 at *
  refine (Obj_ok (RB.frame f2' (by simp)) j u hu hsu hlu).mono ?_
  rintro e w3 ⟨g2, rfl, f3, hg2, hrow2⟩
  have fw3 : Fr [] w2 (w3.alloc (.cells #[.int .i64 u.sort, .slice (some ⟨g2, 0, none⟩) u.cells.length u.cells.length] 41)) := f3.alloc _
  have F4 := f2'.trans fw3
  have hP4 := (fw3.block kP (by have := f1.size; have := fw1.size; omega) (by simp)).trans hP2
  have hb4 := (fw3.block k1 (Array.getElem?_eq_some_iff.1 hb1).1 (by simp)).trans hb1
  have y0 := at_cells hb4 0 rfl
  have y1 := at_cells hb4 1 rfl
  have q0 := at_cells hP4 0 rfl
  have q1 := at_cells hP4 1 rfl
  have q2 := at_cells hP4 2 rfl
  have q3 := at_cells hP4 3 rfl
  go_wp2
  refine bodyPost_ret (v := .tuple #[.slice none 0 0, .bool false]) (by simp [results, Tryd.results45, go_sem]) rfl ⟨rfl, F4⟩

set_option maxRecDepth 100000 in
set_option maxHeartbeats 1000000 in
theorem join_sort {W : World} {Ba Bb a b : Nat} {la ua ka na lb ub kb nb : Int} {sa sb : Value} {TA TB : List Thing} (RA : Rep W Ba a la ua sa ka na TA) (RB : Rep W Bb b lb ub sb kb nb TB) (mb : Nat) (i : Nat) (t : Thing) (ht : TA[i]? = some t) (hst : -1 ≤ t.sort) (hlt : t.cells.length ≤ 10000000) (j : Nat) (u : Thing) (hu : TB[j]? = some u) (hsu : -1 ≤ u.sort) (hlu : u.cells.length ≤ 10000000) (hs : (t.sort == u.sort) = false) :
    Calls Tryd.prog 45 #[.agg (matV a b mb), .agg (pairV (2, (i : Int)) (2, (j : Int)))] W fun e W' => e = .returned (.tuple #[.slice none 0 0, .bool false]) ∧ Fr [] W W' := by
  unfold matV pairV
  go_enter Tryd.func45, Tryd.ntmps45
  go_wp2_with fail
  have f0 : Fr [] W ((W.alloc (.cells #[.pointer (some ⟨a, 0, none⟩), .pointer (some ⟨b, 0, none⟩), .map (some mb)] 52)).alloc (.cells #[.int .i64 2, .int .i64 (i : Int), .int .i64 2, .int .i64 (j : Int)] 59)) := ((Fr.refl _ _).alloc _).alloc _
  have hM0 : ((W.alloc (.cells #[.pointer (some ⟨a, 0, none⟩), .pointer (some ⟨b, 0, none⟩), .map (some mb)] 52)).alloc (.cells #[.int .i64 2, .int .i64 (i : Int), .int .i64 2, .int .i64 (j : Int)] 59)).heap[W.heap.size]? = some (.cells #[.pointer (some ⟨a, 0, none⟩), .pointer (some ⟨b, 0, none⟩), .map (some mb)] 52) := (Below.heap_alloc _ _ _ (by simp)).trans (heap_alloc_new W _)
  have hP0 := blk2 W (.cells #[.pointer (some ⟨a, 0, none⟩), .pointer (some ⟨b, 0, none⟩), .map (some mb)] 52) (.cells #[.int .i64 2, .int .i64 (i : Int), .int .i64 2, .int .i64 (j : Int)] 59)
  generalize (W.alloc (.cells #[.pointer (some ⟨a, 0, none⟩), .pointer (some ⟨b, 0, none⟩), .map (some mb)] 52)).alloc (.cells #[.int .i64 2, .int .i64 (i : Int), .int .i64 2, .int .i64 (j : Int)] 59) = w0 at *
  generalize W.heap.size + 1 = kP at *
  generalize W.heap.size = N at *
  have hNl : N < w0.heap.size := (Array.getElem?_eq_some_iff.1 hM0).1
  have hPl : kP < w0.heap.size := (Array.getElem?_eq_some_iff.1 hP0).1
  refine (Obj_ok (RA.frame f0 (by simp)) i t ht hst hlt).mono ?_
  rintro e w1 ⟨g1, rfl, f1, hg1, hrow1⟩
  have F1 := fun o => f1.alloc o
  have hM1 := fun o => ((F1 o).block N hNl (by simp)).trans hM0
  have hP1 := fun o => ((F1 o).block kP hPl (by simp)).trans hP0
  have m1 := fun o => at_cells (hM1 o) 1 (u := .pointer (some ⟨b, 0, none⟩)) rfl
  have p2 := fun o => at_cells (hP1 o) 2 (u := .int .i64 2) rfl
  have p3 := fun o => at_cells (hP1 o) 3 (u := .int .i64 (j : Int)) rfl
  go_wp2_with fail
  have hb1 : (w1.alloc (.cells #[.int .i64 t.sort, .slice (some ⟨g1, 0, none⟩) t.cells.length t.cells.length] 41)).heap[w1.heap.size]? = some (.cells #[.int .i64 t.sort, .slice (some ⟨g1, 0, none⟩) t.cells.length t.cells.length] 41) := heap_alloc_new w1 _
  have fw1 : Fr [] w1 (w1.alloc (.cells #[.int .i64 t.sort, .slice (some ⟨g1, 0, none⟩) t.cells.length t.cells.length] 41)) := (Fr.refl _ _).alloc _
  have f2' := f0.trans (F1 (.cells #[.int .i64 t.sort, .slice (some ⟨g1, 0, none⟩) t.cells.length t.cells.length] 41))
  have hP2 := hP1 (.cells #[.int .i64 t.sort, .slice (some ⟨g1, 0, none⟩) t.cells.length t.cells.length] 41)
  clear F1 hM1 hP1 m1 p2 p3
  generalize w1.alloc (.cells #[.int .i64 t.sort, .slice (some ⟨g1, 0, none⟩) t.cells.length t.cells.length] 41) = w2 at *
  generalize w1.heap.size = k1 at *
  refine (Obj_ok (RB.frame f2' (by simp)) j u hu hsu hlu).mono ?_
  rintro e w3 ⟨g2, rfl, f3, hg2, hrow2⟩
  have fw3 : Fr [] w2 (w3.alloc (.cells #[.int .i64 u.sort, .slice (some ⟨g2, 0, none⟩) u.cells.length u.cells.length] 41)) := f3.alloc _
  have F4 := f2'.trans fw3
  have hP4 := (fw3.block kP (by have := f1.size; have := fw1.size; omega) (by simp)).trans hP2
  have hb4 := (fw3.block k1 (Array.getElem?_eq_some_iff.1 hb1).1 (by simp)).trans hb1
  have y0 := at_cells hb4 0 rfl
  have y1 := at_cells hb4 1 rfl
  have q0 := at_cells hP4 0 rfl
  have q1 := at_cells hP4 1 rfl
  have q2 := at_cells hP4 2 rfl
  have q3 := at_cells hP4 3 rfl
  go_wp2
  all_goals refine bodyPost_ret (v := .tuple #[.slice none 0 0, .bool false]) (by simp [results, Tryd.results45, go_sem]) rfl ⟨rfl, F4⟩

set_option maxRecDepth 100000 in
set_option maxHeartbeats 1000000 in
theorem join_len {W : World} {Ba Bb a b : Nat} {la ua ka na lb ub kb nb : Int} {sa sb : Value} {TA TB : List Thing} (RA : Rep W Ba a la ua sa ka na TA) (RB : Rep W Bb b lb ub sb kb nb TB) (mb : Nat) (i : Nat) (t : Thing) (ht : TA[i]? = some t) (hst : -1 ≤ t.sort) (hlt : t.cells.length ≤ 10000000) (j : Nat) (u : Thing) (hu : TB[j]? = some u) (hsu : -1 ≤ u.sort) (hlu : u.cells.length ≤ 10000000) (hl : t.cells.length ≠ u.cells.length) :
    Calls Tryd.prog 45 #[.agg (matV a b mb), .agg (pairV (2, (i : Int)) (2, (j : Int)))] W fun e W' => e = .returned (.tuple #[.slice none 0 0, .bool false]) ∧ Fr [] W W' := by
  unfold matV pairV
  have hl1 : ((t.cells.length : Int) == (u.cells.length : Int)) = false := by simp; omega
  have hl2 : (t.cells.length == u.cells.length) = false := by simpa using hl
  go_enter Tryd.func45, Tryd.ntmps45
  go_wp2_with fail
  have f0 : Fr [] W ((W.alloc (.cells #[.pointer (some ⟨a, 0, none⟩), .pointer (some ⟨b, 0, none⟩), .map (some mb)] 52)).alloc (.cells #[.int .i64 2, .int .i64 (i : Int), .int .i64 2, .int .i64 (j : Int)] 59)) := ((Fr.refl _ _).alloc _).alloc _
  have hM0 : ((W.alloc (.cells #[.pointer (some ⟨a, 0, none⟩), .pointer (some ⟨b, 0, none⟩), .map (some mb)] 52)).alloc (.cells #[.int .i64 2, .int .i64 (i : Int), .int .i64 2, .int .i64 (j : Int)] 59)).heap[W.heap.size]? = some (.cells #[.pointer (some ⟨a, 0, none⟩), .pointer (some ⟨b, 0, none⟩), .map (some mb)] 52) := (Below.heap_alloc _ _ _ (by simp)).trans (heap_alloc_new W _)
  have hP0 := blk2 W (.cells #[.pointer (some ⟨a, 0, none⟩), .pointer (some ⟨b, 0, none⟩), .map (some mb)] 52) (.cells #[.int .i64 2, .int .i64 (i : Int), .int .i64 2, .int .i64 (j : Int)] 59)
  generalize (W.alloc (.cells #[.pointer (some ⟨a, 0, none⟩), .pointer (some ⟨b, 0, none⟩), .map (some mb)] 52)).alloc (.cells #[.int .i64 2, .int .i64 (i : Int), .int .i64 2, .int .i64 (j : Int)] 59) = w0 at *
  generalize W.heap.size + 1 = kP at *
  generalize W.heap.size = N at *
  have hNl : N < w0.heap.size := (Array.getElem?_eq_some_iff.1 hM0).1
  have hPl : kP < w0.heap.size := (Array.getElem?_eq_some_iff.1 hP0).1
  refine (Obj_ok (RA.frame f0 (by simp)) i t ht hst hlt).mono ?_
  rintro e w1 ⟨g1, rfl, f1, hg1, hrow1⟩
  have F1 := fun o => f1.alloc o
  have hM1 := fun o => ((F1 o).block N hNl (by simp)).trans hM0
  have hP1 := fun o => ((F1 o).block kP hPl (by simp)).trans hP0
  have m1 := fun o => at_cells (hM1 o) 1 (u := .pointer (some ⟨b, 0, none⟩)) rfl
  have p2 := fun o => at_cells (hP1 o) 2 (u := .int .i64 2) rfl
  have p3 := fun o => at_cells (hP1 o) 3 (u := .int .i64 (j : Int)) rfl
  go_wp2_with fail
  have hb1 : (w1.alloc (.cells #[.int .i64 t.sort, .slice (some ⟨g1, 0, none⟩) t.cells.length t.cells.length] 41)).heap[w1.heap.size]? = some (.cells #[.int .i64 t.sort, .slice (some ⟨g1, 0, none⟩) t.cells.length t.cells.length] 41) := heap_alloc_new w1 _
  have fw1 : Fr [] w1 (w1.alloc (.cells #[.int .i64 t.sort, .slice (some ⟨g1, 0, none⟩) t.cells.length t.cells.length] 41)) := (Fr.refl _ _).alloc _
  have f2' := f0.trans (F1 (.cells #[.int .i64 t.sort, .slice (some ⟨g1, 0, none⟩) t.cells.length t.cells.length] 41))
  have hP2 := hP1 (.cells #[.int .i64 t.sort, .slice (some ⟨g1, 0, none⟩) t.cells.length t.cells.length] 41)
  clear F1 hM1 hP1 m1 p2 p3
  generalize w1.alloc (.cells #[.int .i64 t.sort, .slice (some ⟨g1, 0, none⟩) t.cells.length t.cells.length] 41) = w2 at *
  generalize w1.heap.size = k1 at *
  refine (Obj_ok (RB.frame f2' (by simp)) j u hu hsu hlu).mono ?_
  rintro e w3 ⟨g2, rfl, f3, hg2, hrow2⟩
  have fw3 : Fr [] w2 (w3.alloc (.cells #[.int .i64 u.sort, .slice (some ⟨g2, 0, none⟩) u.cells.length u.cells.length] 41)) := f3.alloc _
  have F4 := f2'.trans fw3
  have hP4 := (fw3.block kP (by have := f1.size; have := fw1.size; omega) (by simp)).trans hP2
  have hb4 := (fw3.block k1 (Array.getElem?_eq_some_iff.1 hb1).1 (by simp)).trans hb1
  have y0 := at_cells hb4 0 rfl
  have y1 := at_cells hb4 1 rfl
  have q0 := at_cells hP4 0 rfl
  have q1 := at_cells hP4 1 rfl
  have q2 := at_cells hP4 2 rfl
  have q3 := at_cells hP4 3 rfl
  go_wp2
  all_goals refine bodyPost_ret (v := .tuple #[.slice none 0 0, .bool false]) (by simp [results, Tryd.results45, go_sem]) rfl ⟨rfl, F4⟩

end Go.Proofs.YtefkcmeeagflmaaDoor
namespace Go.Proofs.YtefkcmeeagflmaaDoor
open Go.RowKit Go.Shelf Go.Maps

set_option maxRecDepth 100000 in
set_option maxHeartbeats 1000000 in
theorem take_same (W : World) (a b mb : Nat) (x y : Int) (h : (x == 2) = false) :
    Calls Tryd.prog 26 #[.agg (matV a b mb), .agg (pairV (x, y) (x, y))] W fun e W' => e = .returned (.tuple #[.slice none 0 0, .bool true]) ∧ Fr [] W W' := by
  unfold matV pairV
  have h' : ¬ x = 2 := by simpa using h
  have h'' : (x != 2) = true := by simpa using h
  have F0 : Fr [] W ((W.alloc (.cells #[.pointer (some ⟨a, 0, none⟩), .pointer (some ⟨b, 0, none⟩), .map (some mb)] 52)).alloc (.cells #[.int .i64 x, .int .i64 y, .int .i64 x, .int .i64 y] 59)) := ((Fr.refl _ _).alloc _).alloc _
  go_enter Tryd.func26, Tryd.ntmps26
  go_wp2_with fail
  go_quiet (fail)
  go_wp2
  refine bodyPost_ret (v := .tuple #[.slice none 0 0, .bool true]) (by simp [results, Tryd.results26, go_sem]) rfl ⟨rfl, F0.drewN _⟩

set_option maxRecDepth 100000 in
set_option maxHeartbeats 1000000 in
theorem take_kind (W : World) (a b mb : Nat) (x y z v : Int) (h : (x == 2) = false) (hk : (x == z) = false) :
    Calls Tryd.prog 26 #[.agg (matV a b mb), .agg (pairV (x, y) (z, v))] W fun e W' => e = .returned (.tuple #[.slice none 0 0, .bool false]) ∧ Fr [] W W' := by
  unfold matV pairV
  have F0 : Fr [] W ((W.alloc (.cells #[.pointer (some ⟨a, 0, none⟩), .pointer (some ⟨b, 0, none⟩), .map (some mb)] 52)).alloc (.cells #[.int .i64 x, .int .i64 y, .int .i64 z, .int .i64 v] 59)) := ((Fr.refl _ _).alloc _).alloc _
  go_enter Tryd.func26, Tryd.ntmps26
  go_wp2_with fail
  go_quiet (fail)
  go_wp2
  refine bodyPost_ret (v := .tuple #[.slice none 0 0, .bool false]) (by simp [results, Tryd.results26, go_sem]) rfl ⟨rfl, F0.drewN _⟩

set_option maxRecDepth 100000 in
set_option maxHeartbeats 1000000 in
theorem take_num (W : World) (a b mb : Nat) (x y v : Int) (h : (x == 2) = false) (hk : (y == v) = false) :
    Calls Tryd.prog 26 #[.agg (matV a b mb), .agg (pairV (x, y) (x, v))] W fun e W' => e = .returned (.tuple #[.slice none 0 0, .bool false]) ∧ Fr [] W W' := by
  unfold matV pairV
  have h' : ¬ x = 2 := by simpa using h
  have h'' : (x != 2) = true := by simpa using h
  have F0 : Fr [] W ((W.alloc (.cells #[.pointer (some ⟨a, 0, none⟩), .pointer (some ⟨b, 0, none⟩), .map (some mb)] 52)).alloc (.cells #[.int .i64 x, .int .i64 y, .int .i64 x, .int .i64 v] 59)) := ((Fr.refl _ _).alloc _).alloc _
  go_enter Tryd.func26, Tryd.ntmps26
  go_wp2_with fail
  go_quiet (fail)
  go_wp2
  refine bodyPost_ret (v := .tuple #[.slice none 0 0, .bool false]) (by simp [results, Tryd.results26, go_sem]) rfl ⟨rfl, F0.drewN _⟩

set_option maxRecDepth 100000 in
set_option maxHeartbeats 1000000 in
theorem take_right (W : World) (a b mb : Nat) (y z v : Int) (hk : (2 == z) = false) :
    Calls Tryd.prog 26 #[.agg (matV a b mb), .agg (pairV (2, y) (z, v))] W fun e W' => e = .returned (.tuple #[.slice none 0 0, .bool false]) ∧ Fr [] W W' := by
  unfold matV pairV
  have F0 : Fr [] W ((W.alloc (.cells #[.pointer (some ⟨a, 0, none⟩), .pointer (some ⟨b, 0, none⟩), .map (some mb)] 52)).alloc (.cells #[.int .i64 2, .int .i64 y, .int .i64 z, .int .i64 v] 59)) := ((Fr.refl _ _).alloc _).alloc _
  go_enter Tryd.func26, Tryd.ntmps26
  go_wp2_with fail
  go_quiet (fail)
  go_wp2
  refine bodyPost_ret (v := .tuple #[.slice none 0 0, .bool false]) (by simp [results, Tryd.results26, go_sem]) rfl ⟨rfl, F0.drewN _⟩

set_option maxRecDepth 100000 in
set_option maxHeartbeats 1000000 in
theorem take_met {W : World} {mb n : Nat} {f : Bool → Int → Option Int} (M : MapAt W mb n f) (a b : Nat) (x y : Int) (hx : (Lit.int .i64 x).wf = true) (hy : (Lit.int .i64 y).wf = true) (h1 : f false x = some y) (h2 : f true y = some x) :
    Calls Tryd.prog 26 #[.agg (matV a b mb), .agg (pairV (2, x) (2, y))] W fun e W' => e = .returned (.tuple #[.slice none 0 0, .bool true]) ∧ Fr [] W W' := by
  unfold matV pairV
  have F0 : Fr [] W ((W.alloc (.cells #[.pointer (some ⟨a, 0, none⟩), .pointer (some ⟨b, 0, none⟩), .map (some mb)] 52)).alloc (.cells #[.int .i64 2, .int .i64 x, .int .i64 2, .int .i64 y] 59)) := ((Fr.refl _ _).alloc _).alloc _
  obtain ⟨D, hown, hD⟩ := M.fr F0 (by simp)
  have d1 := hD false x hx
  have d2 := hD true y hy
  rw [h1] at d1
  rw [h2] at d2
  obtain ⟨d1, e1⟩ := d1
  obtain ⟨d2, e2⟩ := d2
  go_enter Tryd.func26, Tryd.ntmps26
  go_wp2_with (first
    | (at_lookup; refine wpList_lookup_own_ok_int _ rfl _ _ 50 rfl 110 2 .i64 law110 under50 Tryd.underlying2 (zero2 _) mb n D rfl hown _ _ rfl (keyOf110 W false x hx) ?_; intro c1 hc1 _; rw [e1] at hc1; simp at hc1; subst hc1; rw [d1])
    | (at_lookup; refine wpList_lookup_own_ok_int _ rfl _ _ 50 rfl 110 2 .i64 law110 under50 Tryd.underlying2 (zero2 _) mb n D rfl hown _ _ rfl (keyOf110 W true y hy) ?_; intro c2 hc2 _; rw [e2] at hc2; simp at hc2; subst hc2; rw [d2]))
  go_quiet (fail)
  go_wp2
  refine bodyPost_ret (v := .tuple #[.slice none 0 0, .bool true]) (by simp [results, Tryd.results26, go_sem]) rfl ⟨rfl, F0.drewN _⟩

set_option maxRecDepth 100000 in
set_option maxHeartbeats 1000000 in
theorem take_apart {W : World} {mb n : Nat} {f : Bool → Int → Option Int} (M : MapAt W mb n f) (a b : Nat) (x y : Int) (hx : (Lit.int .i64 x).wf = true) (hy : (Lit.int .i64 y).wf = true) (m o : Int) (h1 : f false x = some m) (h2 : f true y = some o) (hm : (m == y) = false) :
    Calls Tryd.prog 26 #[.agg (matV a b mb), .agg (pairV (2, x) (2, y))] W fun e W' => e = .returned (.tuple #[.slice none 0 0, .bool false]) ∧ Fr [] W W' := by
  unfold matV pairV
  have F0 : Fr [] W ((W.alloc (.cells #[.pointer (some ⟨a, 0, none⟩), .pointer (some ⟨b, 0, none⟩), .map (some mb)] 52)).alloc (.cells #[.int .i64 2, .int .i64 x, .int .i64 2, .int .i64 y] 59)) := ((Fr.refl _ _).alloc _).alloc _
  obtain ⟨D, hown, hD⟩ := M.fr F0 (by simp)
  have d1 := hD false x hx
  have d2 := hD true y hy
  rw [h1] at d1
  rw [h2] at d2
  obtain ⟨d1, e1⟩ := d1
  obtain ⟨d2, e2⟩ := d2
  go_enter Tryd.func26, Tryd.ntmps26
  go_wp2_with (first
    | (at_lookup; refine wpList_lookup_own_ok_int _ rfl _ _ 50 rfl 110 2 .i64 law110 under50 Tryd.underlying2 (zero2 _) mb n D rfl hown _ _ rfl (keyOf110 W false x hx) ?_; intro c1 hc1 _; rw [e1] at hc1; simp at hc1; subst hc1; rw [d1])
    | (at_lookup; refine wpList_lookup_own_ok_int _ rfl _ _ 50 rfl 110 2 .i64 law110 under50 Tryd.underlying2 (zero2 _) mb n D rfl hown _ _ rfl (keyOf110 W true y hy) ?_; intro c2 hc2 _; rw [e2] at hc2; simp at hc2; subst hc2; rw [d2]))
  go_quiet (fail)
  go_wp2
  refine bodyPost_ret (v := .tuple #[.slice none 0 0, .bool false]) (by simp [results, Tryd.results26, go_sem]) rfl ⟨rfl, F0.drewN _⟩

set_option maxRecDepth 100000 in
set_option maxHeartbeats 1000000 in
theorem take_other {W : World} {mb n : Nat} {f : Bool → Int → Option Int} (M : MapAt W mb n f) (a b : Nat) (x y : Int) (hx : (Lit.int .i64 x).wf = true) (hy : (Lit.int .i64 y).wf = true) (o : Int) (h1 : f false x = some y) (h2 : f true y = some o) (hm : (o == x) = false) :
    Calls Tryd.prog 26 #[.agg (matV a b mb), .agg (pairV (2, x) (2, y))] W fun e W' => e = .returned (.tuple #[.slice none 0 0, .bool false]) ∧ Fr [] W W' := by
  unfold matV pairV
  have F0 : Fr [] W ((W.alloc (.cells #[.pointer (some ⟨a, 0, none⟩), .pointer (some ⟨b, 0, none⟩), .map (some mb)] 52)).alloc (.cells #[.int .i64 2, .int .i64 x, .int .i64 2, .int .i64 y] 59)) := ((Fr.refl _ _).alloc _).alloc _
  obtain ⟨D, hown, hD⟩ := M.fr F0 (by simp)
  have d1 := hD false x hx
  have d2 := hD true y hy
  rw [h1] at d1
  rw [h2] at d2
  obtain ⟨d1, e1⟩ := d1
  obtain ⟨d2, e2⟩ := d2
  go_enter Tryd.func26, Tryd.ntmps26
  go_wp2_with (first
    | (at_lookup; refine wpList_lookup_own_ok_int _ rfl _ _ 50 rfl 110 2 .i64 law110 under50 Tryd.underlying2 (zero2 _) mb n D rfl hown _ _ rfl (keyOf110 W false x hx) ?_; intro c1 hc1 _; rw [e1] at hc1; simp at hc1; subst hc1; rw [d1])
    | (at_lookup; refine wpList_lookup_own_ok_int _ rfl _ _ 50 rfl 110 2 .i64 law110 under50 Tryd.underlying2 (zero2 _) mb n D rfl hown _ _ rfl (keyOf110 W true y hy) ?_; intro c2 hc2 _; rw [e2] at hc2; simp at hc2; subst hc2; rw [d2]))
  go_quiet (fail)
  go_wp2
  refine bodyPost_ret (v := .tuple #[.slice none 0 0, .bool false]) (by simp [results, Tryd.results26, go_sem]) rfl ⟨rfl, F0.drewN _⟩

set_option maxRecDepth 100000 in
set_option maxHeartbeats 1000000 in
theorem take_one {W : World} {mb n : Nat} {f : Bool → Int → Option Int} (M : MapAt W mb n f) (a b : Nat) (x y : Int) (hx : (Lit.int .i64 x).wf = true) (hy : (Lit.int .i64 y).wf = true) (m : Int) (h1 : f false x = some m) (h2 : f true y = none) :
    Calls Tryd.prog 26 #[.agg (matV a b mb), .agg (pairV (2, x) (2, y))] W fun e W' => e = .returned (.tuple #[.slice none 0 0, .bool false]) ∧ Fr [] W W' := by
  unfold matV pairV
  have F0 : Fr [] W ((W.alloc (.cells #[.pointer (some ⟨a, 0, none⟩), .pointer (some ⟨b, 0, none⟩), .map (some mb)] 52)).alloc (.cells #[.int .i64 2, .int .i64 x, .int .i64 2, .int .i64 y] 59)) := ((Fr.refl _ _).alloc _).alloc _
  obtain ⟨D, hown, hD⟩ := M.fr F0 (by simp)
  have d1 := hD false x hx
  have d2 := hD true y hy
  rw [h1] at d1
  rw [h2] at d2
  obtain ⟨d1, e1⟩ := d1
  obtain ⟨d2, e2⟩ := d2
  go_enter Tryd.func26, Tryd.ntmps26
  go_wp2_with (first
    | (at_lookup; refine wpList_lookup_own_ok_int _ rfl _ _ 50 rfl 110 2 .i64 law110 under50 Tryd.underlying2 (zero2 _) mb n D rfl hown _ _ rfl (keyOf110 W false x hx) ?_; intro c1 hc1 _; rw [e1] at hc1; simp at hc1; subst hc1; rw [d1])
    | (at_lookup; refine wpList_lookup_own_ok_int _ rfl _ _ 50 rfl 110 2 .i64 law110 under50 Tryd.underlying2 (zero2 _) mb n D rfl hown _ _ rfl (keyOf110 W true y hy) ?_; intro c2 hc2 _; rw [e2] at hc2; simp at hc2; subst hc2; rw [d2]))
  go_quiet (fail)
  go_wp2
  refine bodyPost_ret (v := .tuple #[.slice none 0 0, .bool false]) (by simp [results, Tryd.results26, go_sem]) rfl ⟨rfl, F0.drewN _⟩

set_option maxRecDepth 100000 in
set_option maxHeartbeats 1000000 in
theorem take_two {W : World} {mb n : Nat} {f : Bool → Int → Option Int} (M : MapAt W mb n f) (a b : Nat) (x y : Int) (hx : (Lit.int .i64 x).wf = true) (hy : (Lit.int .i64 y).wf = true) (o : Int) (h1 : f false x = none) (h2 : f true y = some o) :
    Calls Tryd.prog 26 #[.agg (matV a b mb), .agg (pairV (2, x) (2, y))] W fun e W' => e = .returned (.tuple #[.slice none 0 0, .bool false]) ∧ Fr [] W W' := by
  unfold matV pairV
  have F0 : Fr [] W ((W.alloc (.cells #[.pointer (some ⟨a, 0, none⟩), .pointer (some ⟨b, 0, none⟩), .map (some mb)] 52)).alloc (.cells #[.int .i64 2, .int .i64 x, .int .i64 2, .int .i64 y] 59)) := ((Fr.refl _ _).alloc _).alloc _
  obtain ⟨D, hown, hD⟩ := M.fr F0 (by simp)
  have d1 := hD false x hx
  have d2 := hD true y hy
  rw [h1] at d1
  rw [h2] at d2
  obtain ⟨d1, e1⟩ := d1
  obtain ⟨d2, e2⟩ := d2
  go_enter Tryd.func26, Tryd.ntmps26
  go_wp2_with (first
    | (at_lookup; refine wpList_lookup_own_ok_int _ rfl _ _ 50 rfl 110 2 .i64 law110 under50 Tryd.underlying2 (zero2 _) mb n D rfl hown _ _ rfl (keyOf110 W false x hx) ?_; intro c1 hc1 _; rw [e1] at hc1; simp at hc1; subst hc1; rw [d1])
    | (at_lookup; refine wpList_lookup_own_ok_int _ rfl _ _ 50 rfl 110 2 .i64 law110 under50 Tryd.underlying2 (zero2 _) mb n D rfl hown _ _ rfl (keyOf110 W true y hy) ?_; intro c2 hc2 _; rw [e2] at hc2; simp at hc2; subst hc2; rw [d2]))
  go_quiet (fail)
  go_wp2
  refine bodyPost_ret (v := .tuple #[.slice none 0 0, .bool false]) (by simp [results, Tryd.results26, go_sem]) rfl ⟨rfl, F0.drewN _⟩

set_option maxRecDepth 100000 in
set_option maxHeartbeats 1000000 in
theorem take_join {W : World} {mb n : Nat} {f : Bool → Int → Option Int} (M : MapAt W mb n f) (a b : Nat) (x y : Int) (hx : (Lit.int .i64 x).wf = true) (hy : (Lit.int .i64 y).wf = true) (h1 : f false x = none) (h2 : f true y = none) (K : Value → World → World → Prop) (hK : ∀ W1, Fr [] W W1 → Calls Tryd.prog 45 #[.agg (matV a b mb), .agg (pairV (2, x) (2, y))] W1 fun e W' => ∃ v r, e = .returned (.tuple #[v, .bool r]) ∧ K (.tuple #[v, .bool r]) W1 W') :
    Calls Tryd.prog 26 #[.agg (matV a b mb), .agg (pairV (2, x) (2, y))] W fun e W' => ∃ v W1, e = .returned v ∧ Fr [] W W1 ∧ K v W1 W' := by
  unfold matV pairV
  have F0 : Fr [] W ((W.alloc (.cells #[.pointer (some ⟨a, 0, none⟩), .pointer (some ⟨b, 0, none⟩), .map (some mb)] 52)).alloc (.cells #[.int .i64 2, .int .i64 x, .int .i64 2, .int .i64 y] 59)) := ((Fr.refl _ _).alloc _).alloc _
  obtain ⟨D, hown, hD⟩ := M.fr F0 (by simp)
  have d1 := hD false x hx
  have d2 := hD true y hy
  rw [h1] at d1
  rw [h2] at d2
  obtain ⟨d1, e1⟩ := d1
  obtain ⟨d2, e2⟩ := d2
  go_enter Tryd.func26, Tryd.ntmps26
  go_wp2_with (first
    | (at_lookup; refine wpList_lookup_own_ok_int _ rfl _ _ 50 rfl 110 2 .i64 law110 under50 Tryd.underlying2 (zero2 _) mb n D rfl hown _ _ rfl (keyOf110 W false x hx) ?_; intro c1 hc1 _; rw [e1] at hc1; simp at hc1; subst hc1; rw [d1])
    | (at_lookup; refine wpList_lookup_own_ok_int _ rfl _ _ 50 rfl 110 2 .i64 law110 under50 Tryd.underlying2 (zero2 _) mb n D rfl hown _ _ rfl (keyOf110 W true y hy) ?_; intro c2 hc2 _; rw [e2] at hc2; simp at hc2; subst hc2; rw [d2]))
  refine (hK _ F0).mono ?_
  rintro e w2 ⟨v, r, rfl, hk⟩
  go_wp2
  refine bodyPost_ret (v := .tuple #[v, .bool r]) (by simp [results, Tryd.results26, go_sem]) rfl ⟨_, _, rfl, F0, hk⟩

end Go.Proofs.YtefkcmeeagflmaaDoor
namespace Go.Proofs.YtefkcmeeagflmaaDoor
open Go.RowKit Go.Shelf Go.Maps

/-- A thing, told by its sort and cells. -/
def thingAt (A : List (Int × List (Int × Int))) (p : Int × Int) : Option (Int × List (Int × Int)) := if p.1 = 2 ∧ 0 ≤ p.2 then A[p.2.toNat]? else none

/-- What comes of two things that nothing stands for yet. -/
def joinStep (A B : List (Int × List (Int × Int))) (f : Bool → Int → Option Int) (p q : Int × Int) : Option ((Bool → Int → Option Int) × List (List Value)) :=
  match thingAt A p, thingAt B q with
  | none, none => if p.2 = q.2 then some (f, []) else none
  | some a, some b => if a.1 = b.1 ∧ a.2.length = b.2.length then some (upd (upd f false p.2 q.2) true q.2 p.2, zipP a.2 b.2) else none
  | _, _ => none

/-- What comes of two values at the same place. -/
def mateStep (A B : List (Int × List (Int × Int))) (f : Bool → Int → Option Int) (p q : Int × Int) : Option ((Bool → Int → Option Int) × List (List Value)) :=
  if p.1 = 2 ∧ q.1 = 2 then
    match f false p.2, f true q.2 with
    | none, none => joinStep A B f p q
    | some m, some o => if m = q.2 ∧ o = p.2 then some (f, []) else none
    | _, _ => none
  else if p = q then some (f, []) else none

/-- How a call that holds two values against each other ends. -/
def Took (W : World) (mb n : Nat) : Option ((Bool → Int → Option Int) × List (List Value)) → Ending → World → Prop
  | none, e, W' => e = .returned (.tuple #[.slice none 0 0, .bool false]) ∧ Fr [mb] W W'
  | some (f, more), e, W' => ∃ v, e = .returned (.tuple #[v, .bool true]) ∧ Fr [mb] W W' ∧ MapAt W' mb (n + 2) f ∧ W'.ownsRow W.heap.size 59 4 v more.length more.flatten

/-- Things that may be. -/
def Fine (T : List Thing) : Prop := ∀ t, t ∈ T → -1 ≤ t.sort ∧ (t.cells.length : Int) ≤ 1000000 ∧ ∀ c, c ∈ t.cells → (Lit.int .i64 c.2).wf = true

theorem MapAt.up {W : World} {mb n : Nat} {f : Bool → Int → Option Int} (h : MapAt W mb n f) : MapAt W mb (n + 2) f := by
  obtain ⟨D, hown, hD⟩ := h
  exact ⟨D, hown.mono (by omega), hD⟩

theorem Took.stay {W : World} {mb n : Nat} {f : Bool → Int → Option Int} (M : MapAt W mb n f) {e : Ending} {W' : World} (h : e = .returned (.tuple #[.slice none 0 0, .bool true]) ∧ Fr [] W W') : Took W mb n (some (f, [])) e W' :=
  ⟨_, h.1, h.2.sub (by simp), (M.fr h.2 (by simp)).up, World.ownsRow_nil _ _ _ _⟩
theorem Took.no {W : World} {mb n : Nat} {e : Ending} {W' : World} (h : e = .returned (.tuple #[.slice none 0 0, .bool false]) ∧ Fr [] W W') : Took W mb n none e W' := ⟨h.1, h.2.sub (by simp)⟩

theorem thing_or (T : List Thing) (x : Int) : (bad T 2 x ∧ thingAt (T.map Thing.abs) (2, x) = none) ∨ ∃ (i : Nat) (t : Thing), x = i ∧ T[i]? = some t ∧ thingAt (T.map Thing.abs) (2, x) = some t.abs := by
  by_cases h : 0 ≤ x ∧ x < T.length
  · right
    obtain ⟨i, rfl⟩ := Int.eq_ofNat_of_zero_le h.1
    have hi : i < T.length := by omega
    refine ⟨i, T[i], rfl, List.getElem?_eq_getElem hi, ?_⟩
    simp [thingAt, hi]
  · left
    refine ⟨fun hb => h hb.2, ?_⟩
    unfold thingAt
    split
    · rename_i h2
      have : ¬ x.toNat < T.length := by have := h2.2; simp at this; omega
      simp; omega
    · rfl

theorem join_any {W : World} {Ba Bb a b : Nat} {la ua ka na lb ub kb nb : Int} {sa sb : Value} {TA TB : List Thing} (RA : Rep W Ba a la ua sa ka na TA) (RB : Rep W Bb b lb ub sb kb nb TB) (fA : Fine TA) (fB : Fine TB) {mb n : Nat} {f : Bool → Int → Option Int} (M : MapAt W mb n f) (hn : n ≤ 1000000000)
    (x y : Int) (hx : (Lit.int .i64 x).wf = true) (hy : (Lit.int .i64 y).wf = true) :
    Calls Tryd.prog 45 #[.agg (matV a b mb), .agg (pairV (2, x) (2, y))] W (Took W mb n (joinStep (TA.map Thing.abs) (TB.map Thing.abs) f (2, x) (2, y))) := by
  rcases thing_or TA x with ⟨h1, e1⟩ | ⟨i, t, rfl, ht, e1⟩ <;> rcases thing_or TB y with ⟨h2, e2⟩ | ⟨j, u, rfl, hu, e2⟩
  · unfold joinStep
    rw [e1, e2]
    by_cases hxy : x = y
    · subst hxy
      rw [if_pos rfl]
      exact (join_same RA RB mb x h1 h2).mono fun e W' h => Took.stay M h
    · simp only [hxy, if_false]
      exact (join_diff RA RB mb x h1 y h2 (by simpa using hxy)).mono fun e W' h => Took.no h
  · unfold joinStep
    rw [e1, e2]
    have gu := fB u (List.mem_of_getElem? hu)
    exact (join_right RA RB mb x h1 j u hu gu.1 (by have := gu.2.1; omega)).mono fun e W' h => Took.no h
  · unfold joinStep
    rw [e1, e2]
    have gt := fA t (List.mem_of_getElem? ht)
    exact (join_left RA RB mb i t ht gt.1 (by have := gt.2.1; omega) y h2).mono fun e W' h => Took.no h
  · unfold joinStep
    rw [e1, e2]
    have gu := fB u (List.mem_of_getElem? hu)
    have gt := fA t (List.mem_of_getElem? ht)
    show Calls Tryd.prog 45 #[.agg (matV a b mb), .agg (pairV (2, (i : Int)) (2, (j : Int)))] W (Took W mb n (if t.abs.1 = u.abs.1 ∧ t.abs.2.length = u.abs.2.length then some (upd (upd f false (i : Int) (j : Int)) true (j : Int) (i : Int), zipP t.abs.2 u.abs.2) else none))
    by_cases hs : t.sort = u.sort
    · by_cases hl : t.cells.length = u.cells.length
      · rw [if_pos ⟨hs, hl⟩]
        refine (join_ok RA RB M hn i j t u ht hu gt.1 gu.1 gt.2.1 hs.symm hl.symm hx hy).mono fun e W' h => ?_
        obtain ⟨v, h1, h2, h3, h4⟩ := h
        exact ⟨v, h1, h2, h3, by rw [show (zipP t.abs.2 u.abs.2).length = t.cells.length from zipP_length _ _ hl]; exact h4⟩
      · rw [if_neg (show ¬ (t.abs.1 = u.abs.1 ∧ t.abs.2.length = u.abs.2.length) from fun h => hl h.2)]
        exact (join_len RA RB mb i t ht gt.1 (by have := gt.2.1; omega) j u hu gu.1 (by have := gu.2.1; omega) hl).mono fun e W' h => Took.no h
    · rw [if_neg (show ¬ (t.abs.1 = u.abs.1 ∧ t.abs.2.length = u.abs.2.length) from fun h => hs h.1)]
      exact (join_sort RA RB mb i t ht gt.1 (by have := gt.2.1; omega) j u hu gu.1 (by have := gu.2.1; omega) (by simpa using hs)).mono fun e W' h => Took.no h

theorem Took.past {W W1 : World} {mb n : Nat} (f1 : Fr [] W W1) {r : Option ((Bool → Int → Option Int) × List (List Value))} {e : Ending} {W' : World} (h : Took W1 mb n r e W') : Took W mb n r e W' := by
  cases r with
  | none => exact ⟨h.1, (f1.sub (by simp)).trans h.2⟩
  | some s =>
    obtain ⟨f, more⟩ := s
    obtain ⟨v, h1, h2, h3, h4⟩ := h
    exact ⟨v, h1, (f1.sub (by simp)).trans h2, h3, own_low h4 f1.size⟩

theorem Took.form {W : World} {mb n : Nat} {r : Option ((Bool → Int → Option Int) × List (List Value))} {e : Ending} {W' : World} (h : Took W mb n r e W') : ∃ v b, e = .returned (.tuple #[v, .bool b]) := by
  cases r with
  | none => exact ⟨_, _, h.1⟩
  | some s => obtain ⟨f, more⟩ := s; obtain ⟨v, h1, _⟩ := h; exact ⟨_, _, h1⟩

theorem take_any {W : World} {Ba Bb a b : Nat} {la ua ka na lb ub kb nb : Int} {sa sb : Value} {TA TB : List Thing} (RA : Rep W Ba a la ua sa ka na TA) (RB : Rep W Bb b lb ub sb kb nb TB) (fA : Fine TA) (fB : Fine TB) {mb n : Nat} {f : Bool → Int → Option Int} (M : MapAt W mb n f) (hn : n ≤ 1000000000)
    (p q : Int × Int) (hp : (Lit.int .i64 p.2).wf = true) (hq : (Lit.int .i64 q.2).wf = true) :
    Calls Tryd.prog 26 #[.agg (matV a b mb), .agg (pairV p q)] W (Took W mb n (mateStep (TA.map Thing.abs) (TB.map Thing.abs) f p q)) := by
  obtain ⟨x, y⟩ := p
  obtain ⟨z, v⟩ := q
  simp only at hp hq
  unfold mateStep
  by_cases h1 : x = 2
  · subst h1
    by_cases h2 : z = 2
    · subst h2
      rw [if_pos ⟨rfl, rfl⟩]
      simp only
      cases e1 : f false y with
      | none =>
        cases e2 : f true v with
        | none =>
          refine (take_join M a b y v hp hq e1 e2 (fun r W1 W' => Took W1 mb n (joinStep (TA.map Thing.abs) (TB.map Thing.abs) f (2, y) (2, v)) (.returned r) W') ?_).mono ?_
          · intro W1 f1
            refine (join_any (RA.frame f1 (by simp)) (RB.frame f1 (by simp)) fA fB (M.fr f1 (by simp)) hn y v hp hq).mono fun e W' h => ?_
            obtain ⟨w, r, rfl⟩ := h.form
            exact ⟨w, r, rfl, h⟩
          · rintro e W' ⟨r, W1, rfl, f1, h⟩
            exact h.past f1
        | some o => exact (take_two M a b y v hp hq o e1 e2).mono fun e W' h => Took.no h
      | some m =>
        cases e2 : f true v with
        | none => exact (take_one M a b y v hp hq m e1 e2).mono fun e W' h => Took.no h
        | some o =>
          simp only
          by_cases hm : m = v
          · subst hm
            by_cases ho : o = y
            · subst ho
              rw [if_pos ⟨rfl, rfl⟩]
              exact (take_met M a b o m hp hq e1 e2).mono fun e W' h => Took.stay M h
            · rw [if_neg (fun h => ho h.2)]
              exact (take_other M a b y m hp hq o e1 e2 (by simpa using ho)).mono fun e W' h => Took.no h
          · rw [if_neg (fun h => hm h.1)]
            exact (take_apart M a b y v hp hq m o e1 e2 (by simpa using hm)).mono fun e W' h => Took.no h
    · rw [if_neg (fun h => h2 h.2), if_neg (fun h => h2 (by injection h with h3 h4; exact h3.symm))]
      exact (take_right W a b mb y z v (by simpa using fun h => h2 h.symm)).mono fun e W' h => Took.no h
  · rw [if_neg (fun h => h1 h.1)]
    by_cases h2 : x = z
    · subst h2
      by_cases h3 : y = v
      · subst h3
        rw [if_pos rfl]
        exact (take_same W a b mb x y (by simpa using h1)).mono fun e W' h => Took.stay M h
      · rw [if_neg (fun h => h3 (by injection h))]
        exact (take_num W a b mb x y v (by simpa using h1) (by simpa using h3)).mono fun e W' h => Took.no h
    · rw [if_neg (fun h => h2 (by injection h))]
      exact (take_kind W a b mb x y z v (by simpa using h1) (by simpa using h2)).mono fun e W' h => Took.no h
end Go.Proofs.YtefkcmeeagflmaaDoor
namespace Go.Proofs.YtefkcmeeagflmaaDoor
open Go.RowKit Go.Shelf Go.Maps
attribute [local go_sem] Oper.semAt_some

/-- A pair, read off its cells. -/
def dec : List Value → (Int × Int) × (Int × Int)
  | [.int _ a, .int _ b, .int _ c, .int _ d] => ((a, b), (c, d))
  | _ => ((0, 0), (0, 0))

/-- One round of Same. -/
def stepS (A B : List (Int × List (Int × Int))) (s : (Bool → Int → Option Int) × Nat) (x : List Value) : Option (((Bool → Int → Option Int) × Nat) × List (List Value)) :=
  match mateStep A B s.1 (dec x).1 (dec x).2 with
  | none => none
  | some (f, more) => some ((f, s.2 + 1), more)

theorem stepS_cnt (A B : List (Int × List (Int × Int))) : ∀ s x s' more, stepS A B s x = some (s', more) → s'.2 = s.2 + 1 := by
  intro s x s' more h
  unfold stepS at h
  split at h
  · simp at h
  · simp at h
    rw [← h.1]

theorem Stk.far {tb ts : Nat} {ok : List Value → Prop} {W : World} {B bx : Nat} {sv : Value} {L : List Seg} (h : Stk tb ts ok W B bx sv L) {k : Nat} {o : Obj} (hk : W.heap[k]? = some o) (h1 : ∀ c z, o ≠ .cells c tb z) (h2 : ∀ c z, o ≠ .cells c ts z) : k ∉ bx :: sv.ownBlock.toList := by
  simp only [List.mem_cons, Option.mem_toList, not_or]
  refine ⟨fun e => ?_, fun e => ?_⟩
  · rw [e, h.box] at hk
    simp at hk
    exact h1 _ _ hk.symm
  · rcases h.row.2 with ⟨e', _⟩ | ⟨g, cap, cur, e', _, hg, _⟩
    · rw [e'] at e; simp [Value.ownBlock] at e
    · rw [e'] at e
      simp [Value.ownBlock] at e
      subst e
      rw [hg] at hk
      simp at hk
      exact h2 _ _ hk.symm

/-- What Same keeps from round to round. -/
structure SG (Wi : World) (a b mb kr km ka bx D : Nat) (s : (Bool → Int → Option Int) × Nat) (W : World) : Prop where
  F : Fr [] Wi W
  M : MapAt W mb (2 * s.2) s.1
  res : W.heap[kr]? = some (.cells #[.bool false] 4 (0, 0))
  mat : W.heap[km]? = some (.cells (matV a b mb) 52 (0, 0))
  add : W.heap[ka]? = some (.cells #[.func (.func 43) #[] #[.pointer (some ⟨bx, 0, none⟩)]] 53 (0, 0))
  dfr : W.heap[D]? = some (.deferred (some []))
  low : Wi.heap.size ≤ mb

theorem SG.fr {Wi : World} {a b mb kr km ka bx D : Nat} {s : (Bool → Int → Option Int) × Nat} {W W' : World} (h : SG Wi a b mb kr km ka bx D s W) {S : List Nat} (f : Fr S W W') (h0 : ∀ k, k ∈ S → Wi.heap.size ≤ k) (h1 : mb ∉ S) (h2 : kr ∉ S) (h3 : km ∉ S) (h4 : ka ∉ S) (h5 : D ∉ S) : SG Wi a b mb kr km ka bx D s W' :=
  ⟨((h.F.sub (T := S) (by simp)).trans f).sub (fun k hk => .inr (h0 k hk)), h.M.fr f h1, (f.block kr (Array.getElem?_eq_some_iff.1 h.res).1 h2).trans h.res, (f.block km (Array.getElem?_eq_some_iff.1 h.mat).1 h3).trans h.mat,
    (f.block ka (Array.getElem?_eq_some_iff.1 h.add).1 h4).trans h.add, (f.block D (Array.getElem?_eq_some_iff.1 h.dfr).1 h5).trans h.dfr, h.low⟩

theorem SG.stk {Wi : World} {a b mb kr km ka bx D B : Nat} {s : (Bool → Int → Option Int) × Nat} {W W' : World} {sv : Value} {L : List Seg} (h : SG Wi a b mb kr km ka bx D s W) (k : Stk 106 60 okP W B bx sv L) (hB : Wi.heap.size ≤ B) (f : Fr (bx :: sv.ownBlock.toList) W W') : SG Wi a b mb kr km ka bx D s W' := by
  obtain ⟨DD, ⟨es, clock, hb, _⟩, _⟩ := h.M
  refine h.fr f (fun j hj => ?_) (k.far hb (by simp) (by simp)) (k.far h.res (by simp) (by simp)) (k.far h.mat (by simp) (by simp)) (k.far h.add (by simp) (by simp)) (k.far h.dfr (by simp) (by simp))
  simp only [List.mem_cons, Option.mem_toList] at hj
  rcases hj with rfl | hj
  · have := k.base; omega
  · have := (k.row.lt j hj).1; omega

theorem Fr.putObj {W : World} {l : Nat} (o : Obj) : Fr [l] W (W.putObj l o) := Fr.ofGrown (grownBy_putObj' W l o)

theorem SG.putObj {Wi : World} {a b mb kr km ka bx D : Nat} {s : (Bool → Int → Option Int) × Nat} {W : World} (h : SG Wi a b mb kr km ka bx D s W) {l : Nat} {r : Loop} (hl : W.heap[l]? = some (.loop r)) (hlow : Wi.heap.size ≤ l) (o : Obj) : SG Wi a b mb kr km ka bx D s (W.putObj l o) := by
  obtain ⟨DD, ⟨es, clock, hb, _⟩, _⟩ := h.M
  refine h.fr (Fr.putObj o) (by simpa using hlow) ?_ ?_ ?_ ?_ ?_ <;> simp only [List.mem_singleton] <;> intro e
  · rw [e, hl] at hb; simp at hb
  · have := h.res; rw [e, hl] at this; simp at this
  · have := h.mat; rw [e, hl] at this; simp at this
  · have := h.add; rw [e, hl] at this; simp at this
  · have := h.dfr; rw [e, hl] at this; simp at this

theorem Stk.putObj {tb ts : Nat} {ok : List Value → Prop} (hok : ∀ x, ok x → x ≠ []) {W : World} {B bx : Nat} {sv : Value} {L : List Seg} (h : Stk tb ts ok W B bx sv L) {l : Nat} {r : Loop} (hl : W.heap[l]? = some (.loop r)) (o : Obj) : Stk tb ts ok (W.putObj l o) B bx sv L := by
  have hf := h.far hl (by simp) (by simp)
  simp only [List.mem_cons, Option.mem_toList, not_or] at hf
  refine h.fr (Fr.putObj o) (by simpa using fun e => hf.1 e.symm) (fun k hk => by simp; intro e; subst e; exact hf.2 hk) (fun t ht => ?_)
  simp only [List.mem_singleton]
  intro e
  have hx := h.full t ht
  cases hxs : t.xs with
  | nil => exact hx.1 hxs
  | cons x r' =>
    have h1 := hok x (hx.2.2 x (by rw [hxs]; simp))
    cases x with
    | nil => exact h1 rfl
    | cons u x' =>
      have hc := h.lies t ht 0 u (by rw [hxs]; simp)
      rw [e] at hc
      simp [World.cell?, hl] at hc
end Go.Proofs.YtefkcmeeagflmaaDoor
namespace Go.Proofs.YtefkcmeeagflmaaDoor
open Go.RowKit Go.Shelf Go.Maps
attribute [local go_sem] Oper.semAt_some

theorem store_func (P : Program) (w : World) (a : Addr) (m : Mode) (f : Fn) (x y : Array Value) : (store a (.func f x y) m).run P w = stored P w a (.func f x y) m := run_store P w a _ m rfl
attribute [local go_sem] store_func

theorem thingAt_fine {T : List Thing} (h : Fine T) {p : Int × Int} {o : Int × List (Int × Int)} (ho : thingAt (T.map Thing.abs) p = some o) : ∀ c, c ∈ o.2 → (Lit.int .i64 c.2).wf = true := by
  unfold thingAt at ho
  split at ho
  · rw [List.getElem?_map] at ho
    cases ht : T[p.2.toNat]? with
    | none => rw [ht] at ho; simp at ho
    | some t =>
      rw [ht] at ho
      simp at ho
      subst ho
      exact (h t (List.mem_of_getElem? ht)).2.2
  · simp at ho

theorem mateStep_ok {TA TB : List Thing} (fA : Fine TA) (fB : Fine TB) {f f' : Bool → Int → Option Int} {p q : Int × Int} {more : List (List Value)} (h : mateStep (TA.map Thing.abs) (TB.map Thing.abs) f p q = some (f', more)) : ∀ x, x ∈ more → okP x := by
  unfold mateStep at h
  split at h
  · split at h
    · unfold joinStep at h
      split at h
      · split at h
        · simp at h; rw [h.2]; simp
        · simp at h
      · rename_i a b ha hb
        split at h
        · simp at h
          rw [← h.2]
          exact zipP_ok _ _ (thingAt_fine fA ha) (thingAt_fine fB hb)
        · simp at h
      · simp at h
    · split at h
      · simp at h; rw [h.2]; simp
      · simp at h
    · simp at h
  · split at h
    · simp at h; rw [h.2]; simp
    · simp at h

theorem add_own {W : World} {B bx B0 : Nat} {sv v : Value} {L : List Seg} {more : List (List Value)} (h : Stk 106 60 okP W B bx sv L) (hv : W.ownsRow B0 59 4 v more.length more.flatten) (hm : ∀ x, x ∈ more → okP x) (hL : L.length ≤ 1000000000000) :
    Calls Tryd.prog 43 #[v, .pointer (some ⟨bx, 0, none⟩)] W fun e W' => e = .returned (.tuple #[]) ∧ ∃ sv' L', Stk 106 60 okP W' B bx sv' L' ∧ pend L' = more ++ pend L ∧ L'.length ≤ L.length + 1 ∧ Fr (bx :: sv.ownBlock.toList) W W' := by
  cases more with
  | nil =>
    obtain ⟨a, c, rfl, _⟩ := own_slice hv
    refine (add4_none W a c bx).mono ?_
    rintro e W' ⟨rfl, rfl⟩
    exact ⟨rfl, sv, L, h, rfl, by omega, Fr.refl _ _⟩
  | cons x r =>
    rcases hv.2 with ⟨_, e⟩ | ⟨g, cap, cur, rfl, hB, hg, h1, h2, h3, h4⟩
    · simp at e
    · have hcell : ∀ j u, (x :: r).flatten[j]? = some u → W.cell? ⟨g, 0 + j, none⟩ = some u := fun j u hu => by
        have hj := (List.getElem?_eq_some_iff.1 hu).1
        rw [Nat.zero_add, World.ownsRow.cellAt hv j (by rw [← hv.1]; exact hj)]
        exact hu
      have hgb : g ≠ bx := fun e => by have := h.box; rw [← e, hg] at this; simp at this
      have hgr : sv.ownBlock ≠ some g := own_ne h.row hg (by decide)
      refine (add4 h ⟨g, 0, cap, x :: r⟩ hcell ⟨by simp, h1, hm⟩ ⟨hgb, hgr, (Array.getElem?_eq_some_iff.1 hg).1⟩ hL).mono ?_
      rintro e W' ⟨rfl, sv', hk, hf⟩
      exact ⟨rfl, sv', _, hk, by rw [pend_snoc], by simp, hf⟩

set_option maxRecDepth 100000 in
set_option maxHeartbeats 2000000 in
theorem same_len (W : World) (a b : Value) (a1 a2 : Option Addr) (n1 n2 c1 c2 : Nat) (h : ((n1 : Int) == (n2 : Int)) = false) :
    Calls Tryd.prog 12 #[a, .slice a1 n1 c1, b, .slice a2 n2 c2] W fun e W' => e = .returned (.bool false) ∧ Fr [] W W' := by
  have h' : (n1 == n2) = false := by simp at h ⊢; omega
  have f0 : Fr [] W (W.alloc (.cells #[.bool false] 4)) := (Fr.refl _ _).alloc _
  refine callsIn_wide.1 (callsIn_of_wp_marks (n := 0) Tryd.func12 rfl trivial ?_ rfl)
  simp only [Tryd.ntmps12, List.size_toArray, List.length_cons, List.length_nil, Nat.reduceAdd, Nat.reduceSub, Array.replicate_succ, Array.replicate_zero, List.push_toArray, List.append_toArray, List.nil_append, List.cons_append]
  gi_wp2
  exact ⟨.bool false, by simp [results, Tryd.results12, go_sem], rfl, f0⟩

set_option maxRecDepth 100000 in
set_option maxHeartbeats 4000000 in
theorem same_eq {W : World} {Ba Bb a b : Nat} {la ua ka na lb ub kb nb : Int} {sa sb : Value} {TA TB : List Thing} (RA : Rep W Ba a la ua sa ka na TA) (RB : Rep W Bb b lb ub sb kb nb TB) (fA : Fine TA) (fB : Fine TB)
    (xs ys : List (Int × Int)) (n : Nat) (hxn : xs.length = n) (hyn : ys.length = n) (a1 a2 : Option Addr) (c1 c2 : Nat) (h1 : Lies W a1 xs) (h2 : Lies W a2 ys) (hn : (n : Int) ≤ 1000000)
    (wx : ∀ c, c ∈ xs → (Lit.int .i64 c.2).wf = true) (wy : ∀ c, c ∈ ys → (Lit.int .i64 c.2).wf = true)
    (n0 : Nat) (hn0 : n0 ≤ 100000000) (res : Option ((Bool → Int → Option Int) × Nat)) (hrun : run (stepS (TA.map Thing.abs) (TB.map Thing.abs)) n0 (fun _ _ => none, 0) (zipP xs ys) = some res) :
    Calls Tryd.prog 12 #[.pointer (some ⟨a, 0, none⟩), .slice a1 n c1, .pointer (some ⟨b, 0, none⟩), .slice a2 n c2] W fun e W' => e = .returned (.bool res.isSome) ∧ Fr [] W W' := by
  have hmm := @run_makeMap Tryd.prog
  refine callsIn_wide.1 (callsIn_of_wp_marks (n := 0) Tryd.func12 rfl trivial ?_ rfl)
  simp only [Tryd.ntmps12, List.size_toArray, List.length_cons, List.length_nil, Nat.reduceAdd, Nat.reduceSub, Array.replicate_succ, Array.replicate_zero, List.push_toArray, List.append_toArray, List.nil_append, List.cons_append]
  gi_wp2
  have F0 : Fr [] W (((W.alloc (.cells #[.bool false] 4)).alloc (.map #[] 0)).alloc (.cells #[.pointer (some ⟨a, 0, none⟩), .pointer (some ⟨b, 0, none⟩), .map (some (W.heap.size + 1))] 52)) := (((Fr.refl _ _).alloc _).alloc _).alloc _
  have M0 : MapAt (((W.alloc (.cells #[.bool false] 4)).alloc (.map #[] 0)).alloc (.cells #[.pointer (some ⟨a, 0, none⟩), .pointer (some ⟨b, 0, none⟩), .map (some (W.heap.size + 1))] 52)) (W.heap.size + 1) 0 (fun _ _ => none) := by
    refine ⟨.map [], ?_, fun s k _ => ⟨rfl, rfl⟩⟩
    have := (World.ownsMap_made (H := Unit) (W.alloc (.cells #[.bool false] 4)) Tryd.prog 110 (plainElem Tryd.prog 2)).alloc (.cells #[.pointer (some ⟨a, 0, none⟩), .pointer (some ⟨b, 0, none⟩), .map (some (W.heap.size + 1))] 52)
    rwa [World.size_alloc] at this
  have R0 : (((W.alloc (.cells #[.bool false] 4)).alloc (.map #[] 0)).alloc (.cells #[.pointer (some ⟨a, 0, none⟩), .pointer (some ⟨b, 0, none⟩), .map (some (W.heap.size + 1))] 52)).heap[W.heap.size]? = some (.cells #[.bool false] 4 (0, 0)) := by
    rw [Below.heap_alloc _ _ _ (by simp; omega), Below.heap_alloc _ _ _ (by simp)]
    exact heap_alloc_new W _
  have T0 : (((W.alloc (.cells #[.bool false] 4)).alloc (.map #[] 0)).alloc (.cells #[.pointer (some ⟨a, 0, none⟩), .pointer (some ⟨b, 0, none⟩), .map (some (W.heap.size + 1))] 52)).heap[W.heap.size + 1 + 1]? = some (.cells (matV a b (W.heap.size + 1)) 52 (0, 0)) := by
    have := heap_alloc_new ((W.alloc (.cells #[.bool false] 4)).alloc (.map #[] 0)) (.cells #[.pointer (some ⟨a, 0, none⟩), .pointer (some ⟨b, 0, none⟩), .map (some (W.heap.size + 1))] 52)
    simpa [matV] using this
  have hsz : (((W.alloc (.cells #[.bool false] 4)).alloc (.map #[] 0)).alloc (.cells #[.pointer (some ⟨a, 0, none⟩), .pointer (some ⟨b, 0, none⟩), .map (some (W.heap.size + 1))] 52)).heap.size = W.heap.size + 3 := by simp
  generalize ((W.alloc (.cells #[.bool false] 4)).alloc (.map #[] 0)).alloc (.cells #[.pointer (some ⟨a, 0, none⟩), .pointer (some ⟨b, 0, none⟩), .map (some (W.heap.size + 1))] 52) = w0 at *
  refine ⟨trivial, rfl, (callsIn_wide.2 (waiting4 w0 (W.heap.size + 3) (by omega))).mono ?_⟩
  rintro e w1 ⟨rfl, rfl, K1⟩
  rw [hsz] at K1 ⊢
  have F1 := F0.alloc (.cells #[.slice none 0 0] 106)
  have M1 := M0.fr ((Fr.refl [] w0).alloc (.cells #[.slice none 0 0] 106)) (by simp)
  have R1 := (((Fr.refl [] w0).alloc (.cells #[.slice none 0 0] 106)).block _ (Array.getElem?_eq_some_iff.1 R0).1 (by simp)).trans R0
  have T1 := (((Fr.refl [] w0).alloc (.cells #[.slice none 0 0] 106)).block _ (Array.getElem?_eq_some_iff.1 T0).1 (by simp)).trans T0
  have hsz1 : (w0.alloc (.cells #[.slice none 0 0] 106)).heap.size = W.heap.size + 4 := by simp [hsz]
  generalize w0.alloc (.cells #[.slice none 0 0] 106) = w1 at *
  have HZ1 : Hid (w1.heap.size = W.heap.size + 4) := hsz1
  clear hsz1 hsz
  gi_wp2
  have A2 : (w1.alloc (.cells #[.func (.func 43) #[] #[.pointer (some ⟨W.heap.size + 3, 0, none⟩)]] 53)).heap[w1.heap.size]? = some (.cells #[.func (.func 43) #[] #[.pointer (some ⟨W.heap.size + 3, 0, none⟩)]] 53 (0, 0)) := heap_alloc_new w1 _
  have g2 : Fr [] w1 (w1.alloc (.cells #[.func (.func 43) #[] #[.pointer (some ⟨W.heap.size + 3, 0, none⟩)]] 53)) := (Fr.refl _ _).alloc _
  have F2 := F1.trans g2
  have M2 := M1.fr g2 (by simp)
  have R2 := (g2.block _ (Array.getElem?_eq_some_iff.1 R1).1 (by simp)).trans R1
  have T2 := (g2.block _ (Array.getElem?_eq_some_iff.1 T1).1 (by simp)).trans T1
  have K2 := K1.frame g2
  generalize w1.alloc (.cells #[.func (.func 43) #[] #[.pointer (some ⟨W.heap.size + 3, 0, none⟩)]] 53) = w2 at *
  obtain ⟨ka, hka⟩ : ∃ ka, w1.heap.size = ka := ⟨_, rfl⟩
  rw [hka] at A2 ⊢
  have hs2 : W.heap.size + 5 ≤ w2.heap.size := by have := (Array.getElem?_eq_some_iff.1 A2).1; have := HZ1.out; omega
  clear F1 M1 R1 T1 K1 F0 M0 R0 T0 g2
  have ca2 := at_cells A2 0 rfl
  have HX : Hid (xs.length = n) := hxn
  have HY : Hid (ys.length = n) := hyn
  have HZ : Hid ((zipP xs ys).length = n) := by unfold Hid; rw [zipP_length _ _ (by omega)]; exact hxn
  clear hxn hyn
  refine wpIn_mono (Q := NoPanic _) ?_ NoPanic.imp
  gi_region_with (first
    | (refine ⟨trivial, rfl, ?_⟩; gi_at_call 25; refine (callsIn_wide.2 (pairs_any _ xs ys n HX.out HY.out a1 a2 c1 c2 ((h1.fr F2 (by simp)).fr (Fr.drew (Fr.refl [] _)) (by simp)) ((h2.fr F2 (by simp)).fr (Fr.drew (Fr.refl [] _)) (by simp)) hn)).mono ?_; rintro e w3 ⟨v, rfl, g3', ho3⟩; have g3 : Fr [] w2 w3 := (Fr.drew (Fr.refl [] w2)).trans g3'; have K3 := K2.frame g3; have ca3 := g3.cell1 ca2 (by simp))
    | (refine ⟨trivial, rfl, ?_⟩; gi_at_call 43; refine (callsIn_wide.2 (add_own K3 (by rw [HZ.out]; exact ho3) (zipP_ok xs ys wx wy) (by simp))).mono ?_; rintro e w4 ⟨rfl, sv4, L4, K4, p4, l4, g4⟩))
  all_goals
    refine NoPanic.normal ?_
    have pend4 : pend L4 = zipP xs ys := by rw [p4]; simp [pend]
    have M3 := M2.fr g3 (by simp)
    obtain ⟨DD3, ⟨es3, clock3, hmb3, _⟩, _⟩ := M3
    have R3 := (g3.block _ (Array.getElem?_eq_some_iff.1 R2).1 (by simp)).trans R2
    have T3 := (g3.block _ (Array.getElem?_eq_some_iff.1 T2).1 (by simp)).trans T2
    have A3 := (g3.block _ (Array.getElem?_eq_some_iff.1 A2).1 (by simp)).trans A2
    have M4 := (M2.fr g3 (by simp)).fr g4 (K3.far hmb3 (by simp) (by simp))
    have R4 := (g4.block _ (Array.getElem?_eq_some_iff.1 R3).1 (K3.far R3 (by simp) (by simp))).trans R3
    have T4 := (g4.block _ (Array.getElem?_eq_some_iff.1 T3).1 (K3.far T3 (by simp) (by simp))).trans T3
    have A4 := (g4.block _ (Array.getElem?_eq_some_iff.1 A3).1 (K3.far A3 (by simp) (by simp))).trans A3
    have F4 : Fr [] W w4 := (((F2.trans g3).sub (T := [W.heap.size + 3]) (by simp)).trans (g4.sub (fun k hk => .inl (by simpa [Value.ownBlock] using hk)))).sub (fun k hk => .inr (by simp at hk; omega))
    clear hmb3 R3 T3 A3 g3' g3 g4 ho3 K3 ca2 ca3 A2 R2 T2 M2 K2 F2 p4
    gi_wp2
    refine range_outer (gf := 44) (lb := #[.pointer (some ⟨W.heap.size + 3, 0, none⟩)]) rfl (enters_of Tryd.func44 (by kernel_rfl) rfl) ?_
    intro rec hYr
    show CallsIn Fence.wide 0 Tryd.prog 44 #[.func (.yield (w4.heap.size + 1)) #[] #[], .pointer (some ⟨W.heap.size + 3, 0, none⟩)] _ _
    have f5 : Fr [] w4 ((w4.alloc (.deferred (some []))).alloc (.loop (rec .ready none))) := ((Fr.refl _ _).alloc _).alloc _
    have hL5 := blk2 w4 (.deferred (some [])) (.loop (rec .ready none))
    have hD5 : ((w4.alloc (.deferred (some []))).alloc (.loop (rec .ready none))).heap[w4.heap.size]? = some (.deferred (some [])) := (Below.heap_alloc _ _ _ (by simp)).trans (heap_alloc_new w4 _)
    have K5 := K4.frame f5
    have G5 : SG W a b (W.heap.size + 1) W.heap.size (W.heap.size + 1 + 1) ka (W.heap.size + 3) w4.heap.size (fun _ _ => none, 0) ((w4.alloc (.deferred (some []))).alloc (.loop (rec .ready none))) :=
      ⟨F4.trans f5, M4.fr f5 (by simp), (f5.block _ (Array.getElem?_eq_some_iff.1 R4).1 (by simp)).trans R4, (f5.block _ (Array.getElem?_eq_some_iff.1 T4).1 (by simp)).trans T4, (f5.block _ (Array.getElem?_eq_some_iff.1 A4).1 (by simp)).trans A4, hD5, by omega⟩
    generalize (w4.alloc (.deferred (some []))).alloc (.loop (rec .ready none)) = w5 at *
    have hWl : W.heap.size + 5 ≤ w4.heap.size := by have := (Array.getElem?_eq_some_iff.1 A4).1; have := HZ1.out; omega
    generalize w4.heap.size = D at *
    refine (all4 (stepS (TA.map Thing.abs) (TB.map Thing.abs)) (SG W a b (W.heap.size + 1) W.heap.size (W.heap.size + 1 + 1) ka (W.heap.size + 3) D)
      (fun W' => W'.heap[D + 1]? = some (.loop (rec .done (some .ret))) ∧ Fr [] W W' ∧ W'.heap[W.heap.size]? = some (.cells #[.bool false] 4 (0, 0)) ∧ W'.heap[D]? = some (.deferred (some [])))
      (fun W' => W'.heap[D + 1]? = some (.loop (rec .ready none))) (D + 1) (W.heap.size + 3) (W.heap.size + 3) (fun s => s.2) n0 (stepS_cnt _ _)
      (fun s sv L X Y hg hk hf => hg.stk hk (by omega) hf) (fun sv L X Y hr hk hf => (hf.block _ (Array.getElem?_eq_some_iff.1 hr).1 (hk.far hr (by simp) (by simp))).trans hr)
      ?_ w5 (fun _ _ => none, 0) sv4 L4 G5 hL5 K5 n0 res (by rw [pend4]; exact hrun) (by simp) (by simpa using l4)).mono ?_
    · intro s x X sv L hg hr hk hc hl hx
      obtain ⟨p0, p1, q0, q1, rfl, hw1, hw2⟩ := hx
      refine hYr _ X _ rfl hr ?_
      clear hYr
      gi_wp2
      have fX : Fr [] X (X.alloc (.cells #[.int .i64 p0, .int .i64 p1, .int .i64 q0, .int .i64 q1] 59)) := (Fr.refl _ _).alloc _
      have hr1 := (fX.block _ (Array.getElem?_eq_some_iff.1 hr).1 (by simp)).trans hr
      have hp1 : (X.alloc (.cells #[.int .i64 p0, .int .i64 p1, .int .i64 q0, .int .i64 q1] 59)).heap[X.heap.size]? = some (.cells #[.int .i64 p0, .int .i64 p1, .int .i64 q0, .int .i64 q1] 59) := heap_alloc_new X _
      refine ⟨hr1, ?_⟩
      have hg1 := (hg.fr fX (by simp) (by simp) (by simp) (by simp) (by simp) (by simp)).putObj hr1 (by omega) (.loop (rec .busy none))
      have hk1 := (hk.frame fX).putObj okP_ne hr1 (.loop (rec .busy none))
      have hb1 := World.putObj_heap_same (w := X.alloc (.cells #[.int .i64 p0, .int .i64 p1, .int .i64 q0, .int .i64 q1] 59)) (r := D + 1) (o := .loop (rec .busy none)) (Array.getElem?_eq_some_iff.1 hr1).1
      have hp2 := (World.putObj_heap_other (w := X.alloc (.cells #[.int .i64 p0, .int .i64 p1, .int .i64 q0, .int .i64 q1] 59)) (r := D + 1) (k := X.heap.size) (o := .loop (rec .busy none)) (by have := (Array.getElem?_eq_some_iff.1 hr).1; omega)).trans hp1
      generalize (X.alloc (.cells #[.int .i64 p0, .int .i64 p1, .int .i64 q0, .int .i64 q1] 59)).putObj (D + 1) (.loop (rec .busy none)) = X1 at *
      generalize X.heap.size = kp at *
      have m0 := at_cells hg1.mat 0 (u := .pointer (some ⟨a, 0, none⟩)) rfl
      have m1 := at_cells hg1.mat 1 (u := .pointer (some ⟨b, 0, none⟩)) rfl
      have m2 := at_cells hg1.mat 2 (u := .map (some (W.heap.size + 1))) rfl
      have b0 := at_cells hp2 0 rfl
      have b1 := at_cells hp2 1 rfl
      have b2 := at_cells hp2 2 rfl
      have b3 := at_cells hp2 3 rfl
      have C := take_any (RA.frame hg1.F (by simp)) (RB.frame hg1.F (by simp)) fA fB hg1.M (by omega) (p0, p1) (q0, q1) hw1 hw2
      unfold matV pairV at C
      clear hr1 hp1 hk hg hr fX
      gi_wp2
      refine ⟨trivial, rfl, ?_⟩
      refine (CallsIn.inRound (D + 1) (callsIn_wide.2 C)).mono ?_
      intro e X2 hT
      have hfar : ∀ {k : Nat} {o : Obj}, X1.heap[k]? = some o → (∀ es c, o ≠ .map es c) → k ∉ [W.heap.size + 1] := by
        intro k o hk ho hm
        simp only [List.mem_singleton] at hm
        subst hm
        obtain ⟨DD, ⟨es, clock, hb, _⟩, _⟩ := hg1.M
        rw [hb] at hk
        simp at hk
        exact ho _ _ hk.symm
      cases hst : mateStep (TA.map Thing.abs) (TB.map Thing.abs) s.1 (p0, p1) (q0, q1) with
      | none =>
        have hS : stepS (TA.map Thing.abs) (TB.map Thing.abs) s [.int .i64 p0, .int .i64 p1, .int .i64 q0, .int .i64 q1] = none := by
          unfold stepS
          rw [show dec [.int .i64 p0, .int .i64 p1, .int .i64 q0, .int .i64 q1] = ((p0, p1), (q0, q1)) from rfl, hst]
        rw [hst] at hT
        obtain ⟨rfl, f2⟩ := hT
        have hR := (f2.block _ (Array.getElem?_eq_some_iff.1 hg1.res).1 (hfar hg1.res (by simp))).trans hg1.res
        have hDf := (f2.block _ (Array.getElem?_eq_some_iff.1 hg1.dfr).1 (hfar hg1.dfr (by simp))).trans hg1.dfr
        have hB := (f2.block _ (Array.getElem?_eq_some_iff.1 hb1).1 (hfar hb1 (by simp))).trans hb1
        have hF : Fr [] W X2 := ((hg1.F.sub (T := [W.heap.size + 1]) (by simp)).trans f2).sub (fun k hk => .inr (by simp at hk; omega))
        have c8 := at_cells hR 0 rfl
        have z8 : X2.frozen? ⟨W.heap.size, 0, none⟩ = false := by simp [World.frozen?, hR]
        have hB2 : (X2.setCell ⟨W.heap.size, 0, none⟩ (.bool false)).heap[D + 1]? = some (.loop (rec .busy none)) := (Below.heap_setCell _ _ _ _ (by simp; omega)).trans hB
        have hD2 : (X2.setCell ⟨W.heap.size, 0, none⟩ (.bool false)).heap[D]? = some (.deferred (some [])) := (Below.heap_setCell _ _ _ _ (by simp; omega)).trans hDf
        have hR2 : (X2.setCell ⟨W.heap.size, 0, none⟩ (.bool false)).heap[W.heap.size]? = some (.cells #[.bool false] 4 (0, 0)) := by simp [World.setCell, Array.getElem?_modify, hR]
        have hF2 : Fr [] W (X2.setCell ⟨W.heap.size, 0, none⟩ (.bool false)) := Fr.setCell hF (.inr (by simp)) _
        clear C m0 m1 m2 b0 b1 b2 b3
        gi_wp2
        refine ⟨hB2, ?_⟩
        rw [hS]
        exact ⟨rfl, World.putObj_heap_same (Array.getElem?_eq_some_iff.1 hB2).1, ((hF2.sub (T := [D + 1]) (by simp)).trans (Fr.putObj _)).sub (fun k hk => .inr (by simp at hk; omega)), (World.putObj_heap_other (by omega)).trans hR2, (World.putObj_heap_other (by omega)).trans hD2⟩
      | some fm =>
        obtain ⟨f', more⟩ := fm
        have hS : stepS (TA.map Thing.abs) (TB.map Thing.abs) s [.int .i64 p0, .int .i64 p1, .int .i64 q0, .int .i64 q1] = some ((f', s.2 + 1), more) := by
          unfold stepS
          rw [show dec [.int .i64 p0, .int .i64 p1, .int .i64 q0, .int .i64 q1] = ((p0, p1), (q0, q1)) from rfl, hst]
        have hmo := mateStep_ok fA fB hst
        rw [hst] at hT
        obtain ⟨v2, rfl, f2, M2, ho2⟩ := hT
        have hg2 : SG W a b (W.heap.size + 1) W.heap.size (W.heap.size + 1 + 1) ka (W.heap.size + 3) D (f', s.2 + 1) X2 :=
          ⟨((hg1.F.sub (T := [W.heap.size + 1]) (by simp)).trans f2).sub (fun k hk => .inr (by simp at hk; omega)), (by rw [show 2 * (s.2 + 1) = 2 * s.2 + 2 by omega]; exact M2), (f2.block _ (Array.getElem?_eq_some_iff.1 hg1.res).1 (hfar hg1.res (by simp))).trans hg1.res, (f2.block _ (Array.getElem?_eq_some_iff.1 hg1.mat).1 (hfar hg1.mat (by simp))).trans hg1.mat,
            (f2.block _ (Array.getElem?_eq_some_iff.1 hg1.add).1 (hfar hg1.add (by simp))).trans hg1.add, (f2.block _ (Array.getElem?_eq_some_iff.1 hg1.dfr).1 (hfar hg1.dfr (by simp))).trans hg1.dfr, by omega⟩
        have hB := (f2.block _ (Array.getElem?_eq_some_iff.1 hb1).1 (hfar hb1 (by simp))).trans hb1
        have hk2 : Stk 106 60 okP X2 (W.heap.size + 3) (W.heap.size + 3) sv L := by
          refine hk1.fr f2 (hfar hk1.box (by simp)) (fun k hk => ?_) (fun t ht => ?_)
          · rcases hk1.row.2 with ⟨e, _⟩ | ⟨g, cap, cur, e, _, hgg, _⟩
            · rw [e] at hk; simp [Value.ownBlock] at hk
            · rw [e] at hk
              simp [Value.ownBlock] at hk
              subst hk
              exact hfar hgg (by simp)
          · have hlt := hk1.lt okP_ne t ht
            have hx := hk1.full t ht
            cases hxs : t.xs with
            | nil => exact absurd hxs hx.1
            | cons x r' =>
              have h1 := okP_ne x (hx.2.2 x (by rw [hxs]; simp))
              cases x with
              | nil => exact absurd rfl h1
              | cons u x' =>
                have hcc := hk1.lies t ht 0 u (by rw [hxs]; simp)
                intro hm
                simp only [List.mem_singleton] at hm
                obtain ⟨DD, ⟨es, clock, hbm, _⟩, _⟩ := hg1.M
                rw [hm] at hcc
                simp [World.cell?, hbm] at hcc
        have ca := at_cells hg2.add 0 rfl
        clear C m0 m1 m2 b0 b1 b2 b3
        gi_wp2
        refine ⟨trivial, rfl, ?_⟩
        refine (CallsIn.inRound (D + 1) (callsIn_wide.2 (add_own hk2 ho2 hmo (by omega)))).mono ?_
        rintro e X3 ⟨rfl, sv3, L3, k3, pe3, le3, f3⟩
        have hg3 := hg2.stk hk2 (by omega) f3
        have hB3 := (f3.block _ (Array.getElem?_eq_some_iff.1 hB).1 (hk2.far hB (by simp) (by simp))).trans hB
        gi_wp2
        refine ⟨hB3, ?_⟩
        rw [hS]
        exact ⟨rfl, hg3.putObj hB3 (by omega) _, World.putObj_heap_same (Array.getElem?_eq_some_iff.1 hB3).1, sv3, L3, k3.putObj okP_ne hB3 _, pe3, le3⟩
    · rintro e W2 ⟨hv, hE⟩
      cases res with
      | none =>
        obtain ⟨e1, e2, e3, e4⟩ := hE
        refine ⟨hv, .inr ⟨e1, ?_⟩⟩
        have hK : (W2.putObj (D + 1) (.loop (rec .exhausted (some .ret)))).heap[D]? = some (.deferred (some [])) := (World.putObj_heap_other (by omega)).trans e4
        have hR : (W2.putObj (D + 1) (.loop (rec .exhausted (some .ret)))).heap[W.heap.size]? = some (.cells #[.bool false] 4 (0, 0)) := (World.putObj_heap_other (by omega)).trans e3
        have hF : Fr [] W (W2.putObj (D + 1) (.loop (rec .exhausted (some .ret)))) := ((e2.sub (T := [D + 1]) (by simp)).trans (Fr.putObj _)).sub (fun k hk => .inr (by simp at hk; omega))
        gi_wp2
        refine ⟨by simp, .inl ⟨_, _, rfl, run_takeDeferred hK, ?_⟩⟩
        have hR2 := (World.putObj_heap_other (w := W2.putObj (D + 1) (.loop (rec .exhausted (some .ret)))) (r := D) (k := W.heap.size) (o := .deferred none) (by omega)).trans hR
        exact ⟨.bool false, by simp [results, Tryd.results12, go_sem, World.cell?, hR2], rfl, ((hF.sub (T := [D]) (by simp)).trans (Fr.putObj _)).sub (fun k hk => .inr (by simp at hk; omega))⟩
      | some s =>
        obtain ⟨hS, hr⟩ := hE
        refine ⟨hv, .inl ⟨hr, ?_⟩⟩
        have hK : (W2.putObj (D + 1) (.loop (rec .exhausted none))).heap[D]? = some (.deferred (some [])) := (World.putObj_heap_other (by omega)).trans hS.dfr
        have hR : (W2.putObj (D + 1) (.loop (rec .exhausted none))).heap[W.heap.size]? = some (.cells #[.bool false] 4 (0, 0)) := (World.putObj_heap_other (by omega)).trans hS.res
        have hF : Fr [] W (W2.putObj (D + 1) (.loop (rec .exhausted none))) := ((hS.F.sub (T := [D + 1]) (by simp)).trans (Fr.putObj _)).sub (fun k hk => .inr (by simp at hk; omega))
        generalize W2.putObj (D + 1) (.loop (rec .exhausted none)) = W3 at *
        have c8 := at_cells hR 0 rfl
        have z8 : W3.frozen? ⟨W.heap.size, 0, none⟩ = false := by simp [World.frozen?, hR]
        have hK2 : (W3.setCell ⟨W.heap.size, 0, none⟩ (.bool true)).heap[D]? = some (.deferred (some [])) := (Below.heap_setCell _ _ _ _ (by simp; omega)).trans hK
        have hR3 : (W3.setCell ⟨W.heap.size, 0, none⟩ (.bool true)).heap[W.heap.size]? = some (.cells #[.bool true] 4 (0, 0)) := by simp [World.setCell, Array.getElem?_modify, hR]
        have hF3 : Fr [] W (W3.setCell ⟨W.heap.size, 0, none⟩ (.bool true)) := Fr.setCell hF (.inr (by simp)) _
        gi_wp2
        refine ⟨by simp, .inl ⟨_, _, rfl, run_takeDeferred hK2, ?_⟩⟩
        have hR2 := (World.putObj_heap_other (w := W3.setCell ⟨W.heap.size, 0, none⟩ (.bool true)) (r := D) (k := W.heap.size) (o := .deferred none) (by omega)).trans hR3
        exact ⟨.bool true, by simp [results, Tryd.results12, go_sem, World.cell?, hR2], rfl, ((hF3.sub (T := [D]) (by simp)).trans (Fr.putObj _)).sub (fun k hk => .inr (by simp at hk; omega))⟩
end Go.Proofs.YtefkcmeeagflmaaDoor
namespace Go.Proofs.YtefkcmeeagflmaaDoor
open Go.RowKit Go.Shelf
attribute [local go_sem] Oper.semAt_some

/-- How a round may end, where it is told in which blocks lists lie. -/
def RoundedR {σ : Type} (tb ts : Nat) (ok : List Value → Prop) (B bx : Nat) (rg : World → Nat → Prop) (G : σ → World → Prop) (Rd Out : World → Prop) (p : List (List Value)) (ln : Nat) : Option (σ × List (List Value)) → Ending → World → Prop
  | none, e, W => e = .returned (.bool false) ∧ Out W
  | some (s, more), e, W => e = .returned (.bool true) ∧ G s W ∧ Rd W ∧ ∃ sv L, Stk tb ts ok W B bx sv L ∧ pend L = more ++ p ∧ L.length ≤ ln + 1 ∧ ∀ t, t ∈ L → rg W t.g

set_option maxRecDepth 100000 in
set_option maxHeartbeats 1000000 in
theorem all2 {σ : Type} (step : σ → List Value → Option (σ × List (List Value))) (G : σ → World → Prop) (Out : World → Prop) (Rd : World → Prop) (rg : World → Nat → Prop) (l B bx : Nat) (hrg : ∀ sv L X Y g, rg X g → Stk 136 23 okV X B bx sv L → Fr (bx :: sv.ownBlock.toList) X Y → rg Y g) (cnt : σ → Nat) (most : Nat) (hcnt : ∀ s x s' more, step s x = some (s', more) → cnt s' = cnt s + 1)
    (hG : ∀ s sv L W W', G s W → Stk 136 23 okV W B bx sv L → Fr (bx :: sv.ownBlock.toList) W W' → G s W') (hRd : ∀ sv L W W', Rd W → Stk 136 23 okV W B bx sv L → Fr (bx :: sv.ownBlock.toList) W W' → Rd W')
    (hY : ∀ s x W sv L, G s W → Rd W → Stk 136 23 okV W B bx sv L → cnt s < most → L.length ≤ cnt s + 1 → (∀ t, t ∈ L → rg W t.g) → okV x → YieldAt Fence.wide 0 Tryd.prog l #[.agg x.toArray] W (RoundedR 136 23 okV B bx rg G Rd Out (pend L) L.length (step s x)))
    (W : World) (s0 : σ) (sv0 : Value) (L0 : List Seg) (h0 : G s0 W) (r0 : Rd W) (k0 : Stk 136 23 okV W B bx sv0 L0) (n0 : Nat) (res : Option σ) (hrun : run step n0 s0 (pend L0) = some res) (hc0 : n0 + cnt s0 ≤ most) (hl0 : L0.length ≤ cnt s0 + 1) (hr0 : ∀ t, t ∈ L0 → rg W t.g) :
    CallsIn Fence.wide 0 Tryd.prog 58 #[.func (.yield l) #[] #[], .pointer (some ⟨bx, 0, none⟩)] W fun e W' => (∃ v, e = .returned v) ∧ Ends G Rd Out res W' := by
  obtain ⟨mu, hmu⟩ := rounds (fun n W => ∃ s sv L, G s W ∧ Rd W ∧ Stk 136 23 okV W B bx sv L ∧ run step n s (pend L) = some res ∧ n + cnt s ≤ most ∧ L.length ≤ cnt s + 1 ∧ ∀ t, t ∈ L → rg W t.g)
  refine callsIn_of_wp Tryd.func58 rfl trivial ?_ rfl
  simp only [Tryd.ntmps58, List.size_toArray, List.length_cons, List.length_nil, Nat.reduceAdd, Nat.reduceSub, Array.replicate_succ, Array.replicate_zero, List.push_toArray, List.append_toArray, List.nil_append, List.cons_append]
  gi_wp2
  gi_loopw [3] (fun _ wr => ∃ n s sv L, G s wr ∧ Rd wr ∧ Stk 136 23 okV wr B bx sv L ∧ run step n s (pend L) = some res ∧ n + cnt s ≤ most ∧ L.length ≤ cnt s + 1 ∧ ∀ t, t ∈ L → rg wr t.g) (fun _ wr => mu wr)
  case atStart => exact ⟨n0, s0, sv0, L0, h0, r0, k0, hrun, hc0, hl0, hr0⟩
  case round =>
    obtain ⟨n, s1, sv1, L1, q1, q2, q3, q4, q5, q6, q7⟩ := hrel
    obtain ⟨⟨s, sv, L, hg, hr, hk, hrun2, hct, hlc, hreg⟩, _⟩ := hmu wr n ⟨s1, sv1, L1, q1, q2, q3, q4, q5, q6, q7⟩
    clear q5 q6 q7
    by_cases hn : L = []
    · subst hn
      obtain ⟨a, c, rfl, _⟩ := own_slice hk.row
      have cb : wr.cell? ⟨bx, 0, none⟩ = some (.slice a 0 c) := by have := hk.box; simp at this; simp [World.cell?, this]
      gi_wp2
      go_end0
      have : res = some s := by
        cases hm : mu wr with
        | zero => rw [hm] at hrun2; simp [run] at hrun2
        | succ m => rw [hm] at hrun2; simpa [run, pend] using hrun2.symm
      subst this
      exact ⟨⟨_, rfl⟩, hg, hr⟩
    · obtain ⟨L0, sg, x, r, g, cap, rfl, hx, rfl, h1, h2, hB, hx4⟩ := hk.parts hn
      obtain ⟨x0, x1, rfl, hwx⟩ := hx4
      have hlen : (L0 ++ [sg]).length = L0.length + 1 := by simp
      rw [hlen] at h1 hk
      have cb : wr.cell? ⟨bx, 0, none⟩ = some (.slice (some ⟨g, 0, none⟩) (L0.length + 1) cap) := by have := hk.box; simp [World.cell?, this]
      have fb : wr.frozen? ⟨bx, 0, none⟩ = false := by have := hk.box; simp [World.frozen?, this]
      have hrow := hk.row
      rw [hlen] at hrow
      have cr : wr.cell? ⟨g, L0.length, none⟩ = some sg.val := by
        rw [hrow.cellAt L0.length (by omega)]
        simp
      have fr : wr.frozen? ⟨g, L0.length, none⟩ = false := hrow.frozenAt L0.length
      have hl := hk.lies sg (by simp)
      rw [hx] at hl
      have e0 : wr.cell? ⟨sg.g, sg.o, none⟩ = some (.int .i64 x0) := hl 0 (.int .i64 x0) (by simp)
      have e1 := hl 1 (.int .i64 x1) (by simp)
      unfold Seg.val at cr
      have hxl : sg.xs.length = r.length + 1 := by rw [hx]; simp
      rw [hxl] at cr
      have hcap : (cap : Int) ≤ 9223372036854775807 := by have : maxLen = 9223372036854775807 := rfl; omega
      have hll : (L0.length : Int) + 1 ≤ (cap : Int) := by omega
      have hsc : r.length + 1 ≤ sg.c := by have := (hk.full sg (by simp)).2.1; omega
      have hsc2 : ((r.length : Int) + 1) ≤ (sg.c : Int) := by omega
      have f1 : Fr [] wr (wr.alloc (.cells #[.int .i64 x0, .int .i64 x1] 45)) := (Fr.refl _ _).alloc _
      have nb : (wr.alloc (.cells #[.int .i64 x0, .int .i64 x1] 45)).heap[wr.heap.size]? = some (.cells #[.int .i64 x0, .int .i64 x1] 45) := heap_alloc_new wr _
      gi_wp2
      generalize wr.alloc (.cells #[.int .i64 x0, .int .i64 x1] 45) = w1 at *
      have k1 : wr.heap.size < w1.heap.size := (Array.getElem?_eq_some_iff.1 nb).1
      generalize wr.heap.size = kn at *
      have q1' := hk.frame f1
      have cb1 : w1.cell? ⟨bx, 0, none⟩ = some (.slice (some ⟨g, 0, none⟩) (L0.length + 1) cap) := f1.cell1 cb (by simp)
      have cr1 : w1.cell? ⟨g, L0.length, none⟩ = some (.slice (some ⟨sg.g, sg.o, none⟩) (r.length + 1) sg.c) := f1.cell1 cr (by simp)
      have hrow1 := q1'.row
      rw [hlen] at hrow1
      have fr1 : w1.frozen? ⟨g, L0.length, none⟩ = false := hrow1.frozenAt L0.length
      have g1 := hG s _ _ _ _ hg hk (f1.sub (by simp))
      have rd1 := hRd _ _ _ _ hr hk (f1.sub (by simp))
      have hreg1 : ∀ t, t ∈ L0 ++ [sg] → rg w1 t.g := fun t ht => hrg _ _ _ _ _ (hreg t ht) hk (f1.sub (by simp))
      have hpend : pend (L0 ++ [sg]) = [.int .i64 x0, .int .i64 x1] :: (r ++ pend L0) := by rw [pend_snoc, hx]; rfl
      rw [hpend] at hrun2
      obtain ⟨m, hm⟩ : ∃ m, mu wr = m + 1 := by
        cases hmu' : mu wr with
        | zero => rw [hmu'] at hrun2; simp [run] at hrun2
        | succ m => exact ⟨m, rfl⟩
      have HM : Hid (mu wr = m + 1) := hm
      rw [hm] at hrun2 hct
      rw [hlen] at hlc
      have HC : Hid (m + 1 + cnt s ≤ most) := hct
      have HLC : Hid (L0.length + 1 ≤ cnt s + 1) := hlc
      clear hct hlc
      have hl1 : ∀ j u, r.flatten[j]? = some u → w1.cell? ⟨sg.g, sg.o + 2 + j, none⟩ = some u := fun j u hu => by
        have := q1'.lies sg (by simp) (2 + j) u (by rw [hx]; simpa [List.getElem?_append, Nat.add_comm] using hu)
        rwa [← Nat.add_assoc] at this
      have hkn0 : kn ≠ bx := fun e => by have a := q1'.box; rw [← e, nb] at a; simp at a
      have hkg : kn ≠ g := fun e => by
        have a := own_ne hrow1 nb (by decide)
        exact a (by rw [e]; rfl)
      clear cb cr fb fr e0 e1 hl hn hk hrow
      have hbg : bx ≠ g := fun e => q1'.ne (by decide) (by rw [e]; rfl)
      cases r with
      | nil =>
        simp only [List.length_nil, Nat.zero_add] at cr1 hsc hsc2
        have fbx1 : w1.frozen? ⟨bx, 0, none⟩ = false := by have := q1'.box; simp [World.frozen?, this]
        gi_region
        generalize (if sg.c = 1 then some (⟨sg.g, sg.o, none⟩ : Addr) else some ⟨sg.g, sg.o + 2, none⟩) = pp
        have S2 : Stk 136 23 okV ((w1.setCell ⟨g, L0.length, none⟩ (.slice pp 0 (sg.c - 1))).setCell ⟨bx, 0, none⟩ (.slice (some ⟨g, 0, none⟩) L0.length cap)).drew B bx (.slice (some ⟨g, 0, none⟩) L0.length cap) L0 := q1'.gone (by decide) _
        have F2 : Fr (bx :: (Value.slice (some ⟨g, 0, none⟩) (L0.length + 1) cap).ownBlock.toList) w1 ((w1.setCell ⟨g, L0.length, none⟩ (.slice pp 0 (sg.c - 1))).setCell ⟨bx, 0, none⟩ (.slice (some ⟨g, 0, none⟩) L0.length cap)).drew :=
          (Fr.setCell (Fr.setCell (Fr.refl _ _) (.inl (by simp [Value.ownBlock])) _) (.inl (by simp)) _).drew
        have g2 := hG s _ _ _ _ g1 q1' F2
        have rd2 := hRd _ _ _ _ rd1 q1' F2
        have nb2 := (F2.block kn k1 (by simp [Value.ownBlock]; exact ⟨hkn0, hkg⟩)).trans nb
        have cb2 : ((w1.setCell ⟨g, L0.length, none⟩ (.slice pp 0 (sg.c - 1))).drew).cell? ⟨bx, 0, none⟩ = some (.slice (some ⟨g, 0, none⟩) (L0.length + 1) cap) :=
          ((Fr.setCell (S := [g]) (Fr.refl _ w1) (.inl (by simp)) _).drew).cell1 cb1 (by simpa using hbg)
        have hY2 := hY s [.int .i64 x0, .int .i64 x1] _ _ _ g2 rd2 S2 (by have := HC.out; omega) (by have := HLC.out; omega) (fun t ht => hrg _ _ _ _ _ (hreg1 t (by simp [ht])) q1' F2) ⟨_, _, rfl, hwx⟩
        have n0' : ((w1.setCell ⟨g, L0.length, none⟩ (.slice pp 0 (sg.c - 1))).setCell ⟨bx, 0, none⟩ (.slice (some ⟨g, 0, none⟩) L0.length cap)).drew.cell? ⟨kn, 0, none⟩ = some (.int .i64 x0) := by simp [World.cell?, nb2]
        have n1' : ((w1.setCell ⟨g, L0.length, none⟩ (.slice pp 0 (sg.c - 1))).setCell ⟨bx, 0, none⟩ (.slice (some ⟨g, 0, none⟩) L0.length cap)).drew.cell? ⟨kn, 1, none⟩ = some (.int .i64 x1) := by simp [World.cell?, nb2]
        obtain ⟨fn, tmps, assign, body, hy, hR⟩ := hY2
        gi_wp2
        refine ⟨rfl, hR.mono ?_⟩
        rintro e W' h
        clear hR hy n0' n1' nb2 F2 S2 g2 rd2 cb2 q1' cb1 cr1 fr1 fbx1 g1 rd1 nb
        simp only [run] at hrun2
        cases hst : step s [.int .i64 x0, .int .i64 x1] with
        | none =>
          rw [hst] at h hrun2
          obtain ⟨rfl, hO⟩ := h
          simp only [Option.some.injEq] at hrun2
          subst hrun2
          gi_wp2
          refine bodyPost_ret (results_none rfl _ _ _) rfl ?_
          exact ⟨⟨_, rfl⟩, hO⟩
        | some sm =>
          obtain ⟨s', more⟩ := sm
          rw [hst] at h hrun2
          obtain ⟨rfl, hG', hRd', sv', L', hS', hp', hl', hrg'⟩ := h
          simp only at hrun2
          have hct' := hcnt s _ s' more hst
          have hq : ∃ s sv L, G s W' ∧ Rd W' ∧ Stk 136 23 okV W' B bx sv L ∧ run step m s (pend L) = some res ∧ m + cnt s ≤ most ∧ L.length ≤ cnt s + 1 ∧ ∀ t, t ∈ L → rg W' t.g := ⟨s', sv', L', hG', hRd', hS', by rw [hp']; exact hrun2, by have := HC.out; omega, by have := HLC.out; first | omega | (simp at hl'; omega), hrg'⟩
          have hless := (hmu W' m hq).2
          gi_wp2
          go_roundw
          case rel => exact ⟨m, hq⟩
          case measure => have := HM.out; omega
      | cons y r' =>
        have hc1 : sg.c ≠ 1 := by simp at hsc; omega
        have hcc : ¬ (sg.c = 1) := hc1
        gi_region
        have S2 : Stk 136 23 okV (w1.setCell ⟨g, L0.length, none⟩ (.slice (some ⟨sg.g, sg.o + 2, none⟩) (r'.length + 1) (sg.c - 1))).drew B bx (.slice (some ⟨g, 0, none⟩) (L0.length + 1) cap) (L0 ++ [⟨sg.g, sg.o + 2, sg.c - 1, y :: r'⟩]) :=
          Stk.frame (q1'.less (s' := ⟨sg.g, sg.o + 2, sg.c - 1, y :: r'⟩) (by decide) hl1 ⟨by simp, by simp at hsc ⊢; omega, fun x hxm => (q1'.full sg (by simp)).2.2 x (by rw [hx]; simp at hxm ⊢; exact .inr hxm)⟩ rfl) (Fr.drew (Fr.refl _ _))
        have F2 : Fr (bx :: (Value.slice (some ⟨g, 0, none⟩) (L0.length + 1) cap).ownBlock.toList) w1 (w1.setCell ⟨g, L0.length, none⟩ (.slice (some ⟨sg.g, sg.o + 2, none⟩) (r'.length + 1) (sg.c - 1))).drew :=
          (Fr.setCell (Fr.refl _ _) (.inl (by simp [Value.ownBlock])) _).drew
        have g2 := hG s _ _ _ _ g1 q1' F2
        have rd2 := hRd _ _ _ _ rd1 q1' F2
        have nb2 := (F2.block kn k1 (by simp [Value.ownBlock]; exact ⟨hkn0, hkg⟩)).trans nb
        have cb2 : ((w1.setCell ⟨g, L0.length, none⟩ (.slice (some ⟨sg.g, sg.o + 2, none⟩) (r'.length + 1) (sg.c - 1))).drew).cell? ⟨bx, 0, none⟩ = some (.slice (some ⟨g, 0, none⟩) (L0.length + 1) cap) :=
          ((Fr.setCell (S := [g]) (Fr.refl _ w1) (.inl (by simp)) _).drew).cell1 cb1 (by simpa using hbg)
        have hY2 := hY s [.int .i64 x0, .int .i64 x1] _ _ _ g2 rd2 S2 (by have := HC.out; omega) (by have := HLC.out; simp; omega) (fun t ht => by
          rcases List.mem_append.1 ht with h1 | h1
          · exact hrg _ _ _ _ _ (hreg1 t (by simp [h1])) q1' F2
          · simp at h1
            subst h1
            exact hrg _ _ _ _ _ (hreg1 sg (by simp)) q1' F2) ⟨_, _, rfl, hwx⟩
        have n0' : (w1.setCell ⟨g, L0.length, none⟩ (.slice (some ⟨sg.g, sg.o + 2, none⟩) (r'.length + 1) (sg.c - 1))).drew.cell? ⟨kn, 0, none⟩ = some (.int .i64 x0) := by simp [World.cell?, nb2]
        have n1' : (w1.setCell ⟨g, L0.length, none⟩ (.slice (some ⟨sg.g, sg.o + 2, none⟩) (r'.length + 1) (sg.c - 1))).drew.cell? ⟨kn, 1, none⟩ = some (.int .i64 x1) := by simp [World.cell?, nb2]
        obtain ⟨fn, tmps, assign, body, hy, hR⟩ := hY2
        rw [pend_snoc] at hR
        have hln' : (((r'.length : Int) + 1) == 0) = false := by simp; omega
        gi_wp2
        refine ⟨rfl, hR.mono ?_⟩
        rintro e W' h
        clear hR hy n0' n1' nb2 F2 S2 g2 rd2 cb2 q1' cb1 cr1 fr1 g1 rd1 nb
        simp only [run] at hrun2
        cases hst : step s [.int .i64 x0, .int .i64 x1] with
        | none =>
          rw [hst] at h hrun2
          obtain ⟨rfl, hO⟩ := h
          simp only [Option.some.injEq] at hrun2
          subst hrun2
          gi_wp2
          refine bodyPost_ret (results_none rfl _ _ _) rfl ?_
          exact ⟨⟨_, rfl⟩, hO⟩
        | some sm =>
          obtain ⟨s', more⟩ := sm
          rw [hst] at h hrun2
          obtain ⟨rfl, hG', hRd', sv', L', hS', hp', hl', hrg'⟩ := h
          simp only at hrun2
          have hct' := hcnt s _ s' more hst
          have hq : ∃ s sv L, G s W' ∧ Rd W' ∧ Stk 136 23 okV W' B bx sv L ∧ run step m s (pend L) = some res ∧ m + cnt s ≤ most ∧ L.length ≤ cnt s + 1 ∧ ∀ t, t ∈ L → rg W' t.g := ⟨s', sv', L', hG', hRd', hS', by rw [hp']; exact hrun2, by have := HC.out; omega, by have := HLC.out; first | omega | (simp at hl'; omega), hrg'⟩
          have hless := (hmu W' m hq).2
          gi_wp2
          go_roundw
          case rel => exact ⟨m, hq⟩
          case measure => have := HM.out; omega
end Go.Proofs.YtefkcmeeagflmaaDoor
