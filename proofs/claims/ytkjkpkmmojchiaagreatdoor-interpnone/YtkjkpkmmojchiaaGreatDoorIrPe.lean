/-
  What a judge wants of an instruction's number; conditions: the judge, the function and the instruction lie as told.
-/
import Derived.Test.YtkjkpkmmojchiaaGreatDoorIrPd
import Derived.Deep.Cut
namespace Go.Proofs.YtkjkpkmmojchiaaGreatDoor
open Go.RowKit Go.Maps
set_option linter.unusedVariables false
set_option linter.unusedSimpArgs false

set_option maxRecDepth 100000 in
set_option maxHeartbeats 8000000 in
theorem number_27 {P : JP} {n i : Int} {cnt : Nat} {seen : Int → Bool} {w : World} (h : JS P n i cnt seen w) (f : Fu) (x : In) (hop : x.op = 27) (hwk : wfI x.k) (hxl : x.l.length ≤ 8000000000000) (hcl : f.code.length ≤ 20000000000000) (hfl : P.len ≤ 20000000000000) (hm0 : 0 ≤ P.mg) (hm1 : P.mg ≤ 9223372036854775807) (hcnt : cnt ≤ 8000000000000) (R : Ending → World → Prop)
    (hy : numOk P.F P.mg f i x seen = true → ∀ w', JS P n i (nCnt x.op cnt) (nSeen x.op x.k seen) w' → Fr P.S w w' → R (.returned (.tuple #[])) w') (hn : numOk P.F P.mg f i x seen = false → ∀ w', Fr P.S w w' → R (thrown n i) w') :
    Calls Tryz.prog 175 #[.pointer (some ⟨P.jb, 0, none⟩), .agg f.arr, .agg x.arr] w R := by
  have HYES : Hid _ := hy
  have HNO : Hid _ := hn
  clear hy hn
  have F0 : Fr [] w ((w.alloc (.cells f.arr 87)).alloc (.cells x.arr 80)) := ((Fr.refl _ _).alloc _).alloc _
  have b1 := heap_alloc_new w (.cells f.arr 87)
  have bf := (((Fr.refl [] (w.alloc (.cells f.arr 87))).alloc (.cells x.arr 80)).block _ (Array.getElem?_eq_some_iff.1 b1).1 (by simp)).trans b1
  have bx : ((w.alloc (.cells f.arr 87)).alloc (.cells x.arr 80)).heap[w.heap.size + 1]? = some (.cells x.arr 80 (0, 0)) := blk2 w _ _
  have J0 := h.fr0 F0
  have HJ : Hid (JS P n i cnt seen ((w.alloc (.cells f.arr 87)).alloc (.cells x.arr 80))) := J0
  have HF : Hid (Fr [] w ((w.alloc (.cells f.arr 87)).alloc (.cells x.arr 80))) := F0
  have hxlI : (x.l.length : Int) ≤ 8000000000000 := by omega
  have hclI : (f.code.length : Int) ≤ 20000000000000 := by omega
  have hflI : (P.len : Int) ≤ 20000000000000 := by omega
  clear h F0 b1
  obtain ⟨xop, xa, xb, xc, xk, xla, xlc, xl⟩ := x
  unfold In.arr Fu.arr at *
  simp only at *
  subst hop
  go_enter Tryz.func175, Tryz.ntmps175
  go_upto_region 1 with fail
  generalize (w.alloc (.cells #[.string f.name, .int .i64 f.ps, .int .i64 f.rs, .slice f.ca f.code.length f.cc] 87)).alloc (.cells #[.int .i64 27, .int .i64 xa, .int .i64 xb, .int .i64 xc, .int .i64 xk, .slice xla xl.length xlc] 80) = W0 at *
  have x0 : ∀ w', Fr [] W0 w' → w'.cell? ⟨w.heap.size + 1, 0, none⟩ = some (.int .i64 27) := fun w' f => f.cell1 (at_cells bx 0 rfl) (by simp)
  have x1 : ∀ w', Fr [] W0 w' → w'.cell? ⟨w.heap.size + 1, 1, none⟩ = some (.int .i64 xa) := fun w' f => f.cell1 (at_cells bx 1 rfl) (by simp)
  have x2 : ∀ w', Fr [] W0 w' → w'.cell? ⟨w.heap.size + 1, 2, none⟩ = some (.int .i64 xb) := fun w' f => f.cell1 (at_cells bx 2 rfl) (by simp)
  have x3 : ∀ w', Fr [] W0 w' → w'.cell? ⟨w.heap.size + 1, 3, none⟩ = some (.int .i64 xc) := fun w' f => f.cell1 (at_cells bx 3 rfl) (by simp)
  have x4 : ∀ w', Fr [] W0 w' → w'.cell? ⟨w.heap.size + 1, 4, none⟩ = some (.int .i64 xk) := fun w' f => f.cell1 (at_cells bx 4 rfl) (by simp)
  have x5 : ∀ w', Fr [] W0 w' → w'.cell? ⟨w.heap.size + 1, 5, none⟩ = some (.slice xla xl.length xlc) := fun w' f => f.cell1 (at_cells bx 5 rfl) (by simp)
  have ff0 : ∀ w', Fr [] W0 w' → w'.cell? ⟨w.heap.size, 0, none⟩ = some (.string f.name) := fun w' f => f.cell1 (at_cells bf 0 rfl) (by simp)
  have ff1 : ∀ w', Fr [] W0 w' → w'.cell? ⟨w.heap.size, 1, none⟩ = some (.int .i64 f.ps) := fun w' f => f.cell1 (at_cells bf 1 rfl) (by simp)
  have ff2 : ∀ w', Fr [] W0 w' → w'.cell? ⟨w.heap.size, 2, none⟩ = some (.int .i64 f.rs) := fun w' f => f.cell1 (at_cells bf 2 rfl) (by simp)
  have ff3 : ∀ w', Fr [] W0 w' → w'.cell? ⟨w.heap.size, 3, none⟩ = some (.slice f.ca f.code.length f.cc) := fun w' f => f.cell1 (at_cells bf 3 rfl) (by simp)
  have j0 : ∀ w', Fr [] W0 w' → w'.cell? ⟨P.jb, 0, none⟩ = some (.slice P.fa P.len P.cap) := fun w' f => f.cell1 (at_cells J0.blk 0 rfl) (by simp)
  have j1 : ∀ w', Fr [] W0 w' → w'.cell? ⟨P.jb, 1, none⟩ = some (.int .i64 P.mn) := fun w' f => f.cell1 (at_cells J0.blk 1 rfl) (by simp)
  have j2 : ∀ w', Fr [] W0 w' → w'.cell? ⟨P.jb, 2, none⟩ = some (.int .i64 P.mg) := fun w' f => f.cell1 (at_cells J0.blk 2 rfl) (by simp)
  have j3 : ∀ w', Fr [] W0 w' → w'.cell? ⟨P.jb, 3, none⟩ = some (.map (some P.mb)) := fun w' f => f.cell1 (at_cells J0.blk 3 rfl) (by simp)
  have j4 : ∀ w', Fr [] W0 w' → w'.cell? ⟨P.jb, 4, none⟩ = some (.int .i64 n) := fun w' f => f.cell1 (at_cells J0.blk 4 rfl) (by simp)
  have j5 : ∀ w', Fr [] W0 w' → w'.cell? ⟨P.jb, 5, none⟩ = some (.int .i64 i) := fun w' f => f.cell1 (at_cells J0.blk 5 rfl) (by simp)
  have RF : Fr [] W0 W0 := Fr.refl _ _
  have HD : ∀ w' : World, Fr [] W0 w' → Fr [] W0 w'.drew := fun w' h => h.drew
  have x0' := x0 _ RF
  have x1' := x1 _ RF
  have x2' := x2 _ RF
  have x3' := x3 _ RF
  have x4' := x4 _ RF
  have x5' := x5 _ RF
  have ff3' := ff3 _ RF
  have j5' := j5 _ RF
  have j0w := j0 _ RF
  have C := fun R' => merge_cps (J0) ⟨27, xa, xb, xc, xk, xla, xlc, xl⟩ hwk hxl hm0 hm1 hcnt R'
  have HK : Hid (numOk P.F P.mg f i ⟨27, xa, xb, xc, xk, xla, xlc, xl⟩ seen = mergeOk P.mg seen ⟨27, xa, xb, xc, xk, xla, xlc, xl⟩) := rfl
  unfold In.arr at C
  simp only at C
  go_wp2_with fail
  refine C _ ?_ ?_
  · intro hO w9 J9 f9
    have HO : Hid _ := HK.out.trans hO
    have HJ9 : Hid _ := J9
    clear C J9 hO
    go_wp2
    go_end0
    exact HYES.out HO.out _ HJ9.out ((HF.out.sub (T := P.S) (by simp)).trans f9)
  · intro hO w9 f9
    exact bodyPost_panic rfl (HNO.out (HK.out.trans hO) _ ((HF.out.sub (T := P.S) (by simp)).trans f9))

end Go.Proofs.YtkjkpkmmojchiaaGreatDoor
