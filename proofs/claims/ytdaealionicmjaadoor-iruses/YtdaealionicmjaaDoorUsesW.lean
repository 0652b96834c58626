/-
  Which registers any instruction reads and writes; condition: the tables lie as the program's text lays them.
-/
import Derived.Test.YtdaealionicmjaaDoorIrW
import Derived.Test.YtdaealionicmjaaDoorIrE
namespace Go.Proofs.YtdaealionicmjaaDoor
open Go.RowKit
set_option linter.unusedVariables false
set_option linter.unusedSimpArgs false

theorem wT_two : ∀ n, n < 29 → (writesT.getD n [] = [] ∨ writesT.getD n [] = [65]) := by decide
theorem writes_same (x : In) : wrL (regsL x (wT x.op)) = (if wT x.op = [] then -1 else x.a) := by
  rcases wT_two _ (rowN_lt x.op) with h | h
  · have h' : wT x.op = [] := h
    rw [h']
    rfl
  · have h' : wT x.op = [65] := h
    rw [h']
    rfl
theorem ksEq_refl (l : List Int) : ksEq l l = true := by simp [ksEq]
theorem rTl (x : In) (hxl : x.l.length ≤ 8000000000000) : (regsL x (rT x.op)).length ≤ 9000000000000 := by
  have h := okLs_r _ (rowN_lt x.op)
  unfold okLs at h
  simp only [Bool.and_eq_true, decide_eq_true_eq] at h
  have h2 := regsL_take_len x (rT x.op) h.2 (rT x.op).length
  rw [List.take_length] at h2
  have h3 : (rT x.op).length ≤ 10 := h.1.1
  omega

set_option maxRecDepth 100000 in
set_option maxHeartbeats 4000000 in
theorem irUses_walk (x : In) (w : World) (hx : InOk w.heap.size w x) (T : Tabs w) :
    Calls Tryd.prog 5 #[.agg x.arr] w fun e w' => e = .returned (.bool true) ∧ Fr [] w w' := by
  have F0 : Fr [] w (w.alloc (.cells x.arr 39)) := (Fr.refl _ _).alloc _
  have bx : (w.alloc (.cells x.arr 39)).heap[w.heap.size]? = some (.cells x.arr 39 (0, 0)) := heap_alloc_new w _
  have HX : Hid (InOk w.heap.size (w.alloc (.cells x.arr 39)) x) := hx.fr F0 (by simp)
  have HT : Hid (Tabs (w.alloc (.cells x.arr 39))) := T.fr F0 (by simp)
  have CA := awake_any _ HT.out
  have HF : Hid (Fr [] w (w.alloc (.cells x.arr 39))) := F0
  have HXA : Hid (x.arr = x.arr) := rfl
  clear hx T F0
  go_enter Tryd.func5, Tryd.ntmps5
  unfold In.arr at CA bx HX HT HF ⊢
  go_wp2_with fail
  with_reducible (refine CA.mono ?_)
  rintro e W1 ⟨rfl, f1⟩
  have B1 := (f1.block _ (Array.getElem?_eq_some_iff.1 bx).1 (by simp)).trans bx
  have G1 : Hid (Fr [] w W1) := HF.out.trans f1
  have X1 : InOk w.heap.size W1 x := HX.out.fr f1 (by simp)
  have T1 : Tabs W1 := HT.out.fr f1 (by simp)
  have hwW : w.heap.size ≤ W1.heap.size := G1.out.size
  have p5 : W1.cell? ⟨w.heap.size, 5, none⟩ = some (.slice x.la x.l.length x.lc) := at_cells B1 5 rfl
  clear CA f1 bx HX HT HF
  by_cases hl : 100 < x.l.length
  · have hlI : (100 : Int) < (x.l.length : Int) := by omega
    go_wp2
    go_ret
    exact ⟨rfl, G1.out⟩
  · have hlI : ¬ (100 : Int) < (x.l.length : Int) := by omega
    have hxl : x.l.length ≤ 8000000000000 := by omega
    have C15 := fun w' (f : Fr [] W1 w') => reads_any w.heap.size x w' (X1.fr f (by simp)) (Nat.le_trans hwW f.size) hxl (T1.fr f (by simp))
    have C16 := fun w' (f : Fr [] W1 w') => rreads_any w.heap.size x w' (X1.fr f (by simp)) (Nat.le_trans hwW f.size) hxl
    have C17 := fun w' (f : Fr [] W1 w') => writes_any w.heap.size x w' (X1.fr f (by simp)) (Nat.le_trans hwW f.size) hxl (T1.fr f (by simp))
    have C18 := fun w' => rwrites_any x w'
    rw [writes_same] at C17
    have hRL := rTl x hxl
    generalize (if wT x.op = [] then -1 else x.a) = z at *
    generalize regsL x (rT x.op) = RR at *
    have C14 := fun (w' : World) (a b : Option Addr) (ac bc : Nat) (ha : KAt w'.heap.size w' a RR) (hb : KAt w'.heap.size w' b RR) => ints_any w'.heap.size w' RR RR a b RR.length RR.length ac bc rfl rfl (by unfold maxLen; omega) (by unfold maxLen; omega) ha hb
    rw [ksEq_refl] at C14
    have m0 : ∀ w', Fr [] W1 w' → w'.cell? ⟨w.heap.size, 0, none⟩ = some (.int .i64 x.op) := fun w' f => f.cell1 (at_cells B1 0 rfl) (by simp)
    have m1 : ∀ w', Fr [] W1 w' → w'.cell? ⟨w.heap.size, 1, none⟩ = some (.int .i64 x.a) := fun w' f => f.cell1 (at_cells B1 1 rfl) (by simp)
    have m2 : ∀ w', Fr [] W1 w' → w'.cell? ⟨w.heap.size, 2, none⟩ = some (.int .i64 x.b) := fun w' f => f.cell1 (at_cells B1 2 rfl) (by simp)
    have m3 : ∀ w', Fr [] W1 w' → w'.cell? ⟨w.heap.size, 3, none⟩ = some (.int .i64 x.c) := fun w' f => f.cell1 (at_cells B1 3 rfl) (by simp)
    have m4 : ∀ w', Fr [] W1 w' → w'.cell? ⟨w.heap.size, 4, none⟩ = some (.int .i64 x.k) := fun w' f => f.cell1 (at_cells B1 4 rfl) (by simp)
    have m5 : ∀ w', Fr [] W1 w' → w'.cell? ⟨w.heap.size, 5, none⟩ = some (.slice x.la x.l.length x.lc) := fun w' f => f.cell1 (at_cells B1 5 rfl) (by simp)
    unfold In.arr at C15 C16 C17 C18
    have RF : Fr [] W1 W1 := Fr.refl _ _
    have HD : ∀ w' : World, Fr [] W1 w' → Fr [] W1 w'.drew := fun w' h => h.drew
    clear X1 T1 B1 hRL
    go_wp2_with fail
    go_region_held3 (fun w' : World => Fr [] W1 w')
      (with_reducible (first | assumption | exact HD _ (by assumption)))
      (first
        | (go_at_call 15; with_reducible (refine (C15 _ (by assumption)).mono ?_); rintro e w1 ⟨v1, rfl, ho1, f1⟩; obtain ⟨va, vc, rfl, _, _⟩ := ho1.slice; have KA : ∀ w', Fr [] w1 w' → KAt w'.heap.size w' va RR := fun w' f => (ho1.kat.fr f (by simp)).up f.size; have F1 := Fr.trans (by assumption) f1)
        | (go_at_call 16; with_reducible (refine (C16 _ (by assumption)).mono ?_); rintro e w2 ⟨v2, rfl, ho2, f2⟩; obtain ⟨ua, uc, rfl, _, _⟩ := ho2.slice; have KB : ∀ w', Fr [] w2 w' → KAt w'.heap.size w' ua RR := fun w' f => (ho2.kat.fr f (by simp)).up f.size; have F2 := Fr.trans (by assumption) f2)
        | (go_at_call 14; with_reducible (refine (C14 _ _ _ _ _ (KA _ (by first | exact Fr.refl _ _ | assumption)) (KB _ (by first | exact Fr.refl _ _ | assumption))).mono ?_); rintro e w3 ⟨rfl, f3⟩; have F3 := Fr.trans (by assumption) f3)
        | (go_at_call 17; with_reducible (refine (C17 _ (by assumption)).mono ?_); rintro e w4 ⟨rfl, f4⟩; have F4 := Fr.trans (by assumption) f4)
        | (go_at_call 18; with_reducible (refine (C18 _).mono ?_); rintro e w5 ⟨rfl, f5⟩; have F5 := Fr.trans (by assumption) f5))
    all_goals
      have HG : Hid (Fr [] w _) := G1.out.trans F5
      clear C14 C15 C16 C17 C18 m0 m1 m2 m3 m4 m5 HD KA KB ho1 ho2
      go_wp2
      go_ret
      exact ⟨rfl, HG.out⟩
end Go.Proofs.YtdaealionicmjaaDoor
