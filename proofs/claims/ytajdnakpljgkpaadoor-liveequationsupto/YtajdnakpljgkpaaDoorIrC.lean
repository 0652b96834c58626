/-
  Which registers instructions read and write, by the program; conditions: the tables lie as the program's text lays them, the instruction lies as told.
-/
import Derived.Test.YtajdnakpljgkpaaDoorIrB
import Derived.Lib.TrailingZeros
namespace Go.Proofs.YtajdnakpljgkpaaDoor
open Go.RowKit
set_option linter.unusedVariables false
set_option linter.unusedSimpArgs false

/-- Letters that registers can be named by. -/
def okLs (l : List UInt8) : Bool := decide (l.length ≤ 10) && l.all (fun c => decide (c.toNat < 128)) && decide (nL l ≤ 1)
theorem okLs_f : ∀ n, n < 29 → okLs (fieldsT.getD n []) = true := by decide
theorem okLs_r : ∀ n, n < 29 → okLs (readsT.getD n []) = true := by decide
theorem okLs_w : ∀ n, n < 29 → okLs (writesT.getD n []) = true := by decide
theorem txt_list (l : List UInt8) : (txt l).data.toList = l := by simp [txt]
theorem txt_size (l : List UInt8) : (txt l).size = l.length := by simp [txt, ByteArray.size]
theorem registers_txt (l : List UInt8) (hl : okLs l = true) (B : Nat) (x : In) (w : World) (hx : InOk B w x) (hB : B ≤ w.heap.size) (hxl : x.l.length ≤ 8000000000000) :
    Calls Tryd.prog 84 #[.agg x.arr, .string (txt l)] w fun e w' => ∃ v, e = .returned v ∧ OR w' w.heap.size v (regsL x l) ∧ Fr [] w w' := by
  unfold okLs at hl
  simp only [Bool.and_eq_true, decide_eq_true_eq] at hl
  have h := registers_any (txt l) (by rw [txt_size]; exact hl.1.1) (fun i hi => ?_) (by rw [txt_list]; exact hl.2) B x w hx hB hxl
  · rw [txt_list] at h
    exact h
  · have h1 := List.all_eq_true.1 hl.1.2 ((txt l)[i]'hi) (by
      have : (txt l)[i]'hi = l[i]'(by rw [txt_size] at hi; exact hi) := by simp [txt]; rfl
      rw [this]
      exact List.getElem_mem _)
    simpa using h1

/-- The library's table, as its text lays it. -/
def DB (w : World) : Prop := ∀ j, j < 64 → w.cell? ⟨0, j, none⟩ = some (.int .u8 (Lib.deBruijn64tab.getD j 0))
/-- The three tables that all laws' rows list. -/
structure Tabs (w : World) : Prop where
  b : DB w
  r : Tab1 w 1 readsT
  wr : Tab1 w 2 writesT
  len : 3 ≤ w.heap.size
theorem Tabs.fr {S : List Nat} {w w' : World} (h : Tabs w) (f : Fr S w w') (hS : ∀ k, k ∈ S → 3 ≤ k) : Tabs w' :=
  ⟨fun j hj => f.cell1 (h.b j hj) (fun hm => by have := hS _ hm; simp at this), h.r.fr f (fun hm => by have := hS _ hm; omega), h.wr.fr f (fun hm => by have := hS _ hm; omega), Nat.le_trans h.len f.size⟩

set_option maxRecDepth 100000 in
set_option maxHeartbeats 4000000 in
theorem reads_any (B : Nat) (x : In) (w : World) (hx : InOk B w x) (hB : B ≤ w.heap.size) (hxl : x.l.length ≤ 8000000000000) (T : Tabs w) :
    Calls Tryd.prog 67 #[.agg x.arr] w fun e w' => ∃ v, e = .returned v ∧ OR w' w.heap.size v (regsL x (rT x.op)) ∧ Fr [] w w' := by
  have hlt := rowN_lt x.op
  have F0 : Fr [] w (w.alloc (.cells x.arr 59)) := (Fr.refl _ _).alloc _
  have bx : (w.alloc (.cells x.arr 59)).heap[w.heap.size]? = some (.cells x.arr 59 (0, 0)) := heap_alloc_new w _
  have CR := fun w' => row_any x.op w'
  have CG : ∀ w', Fr [] (w.alloc (.cells x.arr 59)) w' → Calls Tryd.prog 84 #[.agg x.arr, .string (txt (rT x.op))] w' fun e w'' => ∃ v, e = .returned v ∧ OR w'' w.heap.size v (regsL x (rT x.op)) ∧ Fr [] w' w'' := fun w' f =>
    (registers_txt (rT x.op) (okLs_r _ hlt) B x w' ((hx.fr F0 (by simp)).fr f (by simp)) (Nat.le_trans hB (Nat.le_trans F0.size f.size)) hxl).mono (fun e w'' ⟨v, h1, h2, h3⟩ => ⟨v, h1, own_low h2 (Nat.le_trans F0.size f.size), h3⟩)
  have tc : ∀ w', Fr [] (w.alloc (.cells x.arr 59)) w' → w'.cell? ⟨1, rowN x.op, none⟩ = some (.string (txt (rT x.op))) := fun w' f => ((T.fr F0 (by simp)).fr f (by simp)).r.cell _ hlt
  have hrI : (rowN x.op : Int) < 29 := by omega
  generalize rT x.op = R at *
  generalize regsL x R = RR at *
  generalize hN : rowN x.op = n at *
  clear hN
  have HF : Hid (Fr [] w (w.alloc (.cells x.arr 59))) := F0
  unfold In.arr at *
  have c0 : ∀ w', Fr [] (w.alloc (.cells #[.int .i64 x.op, .int .i64 x.a, .int .i64 x.b, .int .i64 x.c, .int .i64 x.k, .slice x.la x.l.length x.lc] 59)) w' → w'.cell? ⟨w.heap.size, 0, none⟩ = some (.int .i64 x.op) := fun w' f => f.cell1 (at_cells bx 0 rfl) (by simp)
  have c1 : ∀ w', Fr [] (w.alloc (.cells #[.int .i64 x.op, .int .i64 x.a, .int .i64 x.b, .int .i64 x.c, .int .i64 x.k, .slice x.la x.l.length x.lc] 59)) w' → w'.cell? ⟨w.heap.size, 1, none⟩ = some (.int .i64 x.a) := fun w' f => f.cell1 (at_cells bx 1 rfl) (by simp)
  have c2 : ∀ w', Fr [] (w.alloc (.cells #[.int .i64 x.op, .int .i64 x.a, .int .i64 x.b, .int .i64 x.c, .int .i64 x.k, .slice x.la x.l.length x.lc] 59)) w' → w'.cell? ⟨w.heap.size, 2, none⟩ = some (.int .i64 x.b) := fun w' f => f.cell1 (at_cells bx 2 rfl) (by simp)
  have c3 : ∀ w', Fr [] (w.alloc (.cells #[.int .i64 x.op, .int .i64 x.a, .int .i64 x.b, .int .i64 x.c, .int .i64 x.k, .slice x.la x.l.length x.lc] 59)) w' → w'.cell? ⟨w.heap.size, 3, none⟩ = some (.int .i64 x.c) := fun w' f => f.cell1 (at_cells bx 3 rfl) (by simp)
  have c4 : ∀ w', Fr [] (w.alloc (.cells #[.int .i64 x.op, .int .i64 x.a, .int .i64 x.b, .int .i64 x.c, .int .i64 x.k, .slice x.la x.l.length x.lc] 59)) w' → w'.cell? ⟨w.heap.size, 4, none⟩ = some (.int .i64 x.k) := fun w' f => f.cell1 (at_cells bx 4 rfl) (by simp)
  have c5 : ∀ w', Fr [] (w.alloc (.cells #[.int .i64 x.op, .int .i64 x.a, .int .i64 x.b, .int .i64 x.c, .int .i64 x.k, .slice x.la x.l.length x.lc] 59)) w' → w'.cell? ⟨w.heap.size, 5, none⟩ = some (.slice x.la x.l.length x.lc) := fun w' f => f.cell1 (at_cells bx 5 rfl) (by simp)
  go_enter Tryd.func67, Tryd.ntmps67
  go_wp2_with fail
  generalize w.alloc (.cells #[.int .i64 x.op, .int .i64 x.a, .int .i64 x.b, .int .i64 x.c, .int .i64 x.k, .slice x.la x.l.length x.lc] 59) = W0 at *
  have RF : Fr [] W0 W0 := Fr.refl _ _
  have HD : ∀ w' : World, Fr [] W0 w' → Fr [] W0 w'.drew := fun w' h => h.drew
  clear bx hx T F0
  go_region_held3 (fun w' : World => Fr [] W0 w')
    (with_reducible (first | assumption | exact HD _ (by assumption)))
    (first
      | (go_at_call 85; with_reducible (refine (CR _).mono ?_); rintro e w1 ⟨rfl, rfl⟩)
      | (go_at_call 84; with_reducible (refine (CG _ (by assumption)).mono ?_); rintro e w2 ⟨v, rfl, ho, f2⟩; have F2 := Fr.trans (by assumption) f2))
  have HO : Hid (OR w2 w.heap.size v RR) := ho
  have H2 : Hid (Fr [] w w2) := HF.out.trans F2
  clear ho
  go_wp2
  go_ret
  exact ⟨v, rfl, HO.out, H2.out⟩

/-- The one that is written. -/
def wrL : List Int → Int
  | [] => -1
  | k :: _ => k
set_option maxRecDepth 100000 in
set_option maxHeartbeats 4000000 in
theorem writes_any (B : Nat) (x : In) (w : World) (hx : InOk B w x) (hB : B ≤ w.heap.size) (hxl : x.l.length ≤ 8000000000000) (T : Tabs w) :
    Calls Tryd.prog 70 #[.agg x.arr] w fun e w' => e = .returned (.int .i64 (wrL (regsL x (wT x.op)))) ∧ Fr [] w w' := by
  have hlt := rowN_lt x.op
  have F0 : Fr [] w (w.alloc (.cells x.arr 59)) := (Fr.refl _ _).alloc _
  have bx : (w.alloc (.cells x.arr 59)).heap[w.heap.size]? = some (.cells x.arr 59 (0, 0)) := heap_alloc_new w _
  have CR := fun w' => row_any x.op w'
  have CG : ∀ w', Fr [] (w.alloc (.cells x.arr 59)) w' → Calls Tryd.prog 84 #[.agg x.arr, .string (txt (wT x.op))] w' fun e w'' => ∃ v, e = .returned v ∧ OR w'' w.heap.size v (regsL x (wT x.op)) ∧ Fr [] w' w'' := fun w' f =>
    (registers_txt (wT x.op) (okLs_w _ hlt) B x w' ((hx.fr F0 (by simp)).fr f (by simp)) (Nat.le_trans hB (Nat.le_trans F0.size f.size)) hxl).mono (fun e w'' ⟨v, h1, h2, h3⟩ => ⟨v, h1, own_low h2 (Nat.le_trans F0.size f.size), h3⟩)
  have tc : ∀ w', Fr [] (w.alloc (.cells x.arr 59)) w' → w'.cell? ⟨2, rowN x.op, none⟩ = some (.string (txt (wT x.op))) := fun w' f => ((T.fr F0 (by simp)).fr f (by simp)).wr.cell _ hlt
  have hrI : (rowN x.op : Int) < 29 := by omega
  generalize wT x.op = R at *
  generalize regsL x R = RR at *
  generalize hN : rowN x.op = n at *
  clear hN
  have HF : Hid (Fr [] w (w.alloc (.cells x.arr 59))) := F0
  unfold In.arr at *
  have c0 : ∀ w', Fr [] (w.alloc (.cells #[.int .i64 x.op, .int .i64 x.a, .int .i64 x.b, .int .i64 x.c, .int .i64 x.k, .slice x.la x.l.length x.lc] 59)) w' → w'.cell? ⟨w.heap.size, 0, none⟩ = some (.int .i64 x.op) := fun w' f => f.cell1 (at_cells bx 0 rfl) (by simp)
  have c1 : ∀ w', Fr [] (w.alloc (.cells #[.int .i64 x.op, .int .i64 x.a, .int .i64 x.b, .int .i64 x.c, .int .i64 x.k, .slice x.la x.l.length x.lc] 59)) w' → w'.cell? ⟨w.heap.size, 1, none⟩ = some (.int .i64 x.a) := fun w' f => f.cell1 (at_cells bx 1 rfl) (by simp)
  have c2 : ∀ w', Fr [] (w.alloc (.cells #[.int .i64 x.op, .int .i64 x.a, .int .i64 x.b, .int .i64 x.c, .int .i64 x.k, .slice x.la x.l.length x.lc] 59)) w' → w'.cell? ⟨w.heap.size, 2, none⟩ = some (.int .i64 x.b) := fun w' f => f.cell1 (at_cells bx 2 rfl) (by simp)
  have c3 : ∀ w', Fr [] (w.alloc (.cells #[.int .i64 x.op, .int .i64 x.a, .int .i64 x.b, .int .i64 x.c, .int .i64 x.k, .slice x.la x.l.length x.lc] 59)) w' → w'.cell? ⟨w.heap.size, 3, none⟩ = some (.int .i64 x.c) := fun w' f => f.cell1 (at_cells bx 3 rfl) (by simp)
  have c4 : ∀ w', Fr [] (w.alloc (.cells #[.int .i64 x.op, .int .i64 x.a, .int .i64 x.b, .int .i64 x.c, .int .i64 x.k, .slice x.la x.l.length x.lc] 59)) w' → w'.cell? ⟨w.heap.size, 4, none⟩ = some (.int .i64 x.k) := fun w' f => f.cell1 (at_cells bx 4 rfl) (by simp)
  have c5 : ∀ w', Fr [] (w.alloc (.cells #[.int .i64 x.op, .int .i64 x.a, .int .i64 x.b, .int .i64 x.c, .int .i64 x.k, .slice x.la x.l.length x.lc] 59)) w' → w'.cell? ⟨w.heap.size, 5, none⟩ = some (.slice x.la x.l.length x.lc) := fun w' f => f.cell1 (at_cells bx 5 rfl) (by simp)
  go_enter Tryd.func70, Tryd.ntmps70
  go_wp2_with fail
  generalize w.alloc (.cells #[.int .i64 x.op, .int .i64 x.a, .int .i64 x.b, .int .i64 x.c, .int .i64 x.k, .slice x.la x.l.length x.lc] 59) = W0 at *
  have RF : Fr [] W0 W0 := Fr.refl _ _
  have HD : ∀ w' : World, Fr [] W0 w' → Fr [] W0 w'.drew := fun w' h => h.drew
  clear bx hx T F0
  go_region_held3 (fun w' : World => Fr [] W0 w')
    (with_reducible (first | assumption | exact HD _ (by assumption)))
    (first
      | (go_at_call 85; with_reducible (refine (CR _).mono ?_); rintro e w1 ⟨rfl, rfl⟩)
      | (go_at_call 84; with_reducible (refine (CG _ (by assumption)).mono ?_); rintro e w2 ⟨v, rfl, ho, f2⟩; have F2 := Fr.trans (by assumption) f2))
  have H2 : Hid (Fr [] w w2) := HF.out.trans F2
  clear CG tc c0 c1 c2 c3 c4 c5 HD CR RF
  cases RR with
  | nil =>
    obtain ⟨a, c, rfl, _, _⟩ := ho.slice
    clear ho
    simp only [List.length_nil]
    go_wp2
    go_ret
    exact ⟨rfl, H2.out⟩
  | cons k RR =>
    obtain ⟨a, c, rfl, _, _⟩ := ho.slice
    obtain ⟨b, o, rfl, hb, hk⟩ := ho.kat 0 k rfl
    simp only [Nat.add_zero] at hk
    have HLn : Hid ((k :: RR).length = RR.length + 1) := rfl
    have hl0 : 0 < (k :: RR).length := by simp
    have hb0 : (((k :: RR).length : Int) == 0) = false := beq_int_false (by simp; omega)
    clear ho
    generalize (k :: RR).length = m at *
    go_wp2
    go_ret
    exact ⟨rfl, H2.out⟩

end Go.Proofs.YtajdnakpljgkpaaDoor
