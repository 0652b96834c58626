/-
  What a judge wants of an instruction's number; conditions: the judge, the function and the instruction lie as told.
-/
import Derived.Test.YtkjkpkmmojchiaaGreatDoorIrPd
import Derived.Deep.Cut
namespace Go.Proofs.YtkjkpkmmojchiaaGreatDoor
open Go.RowKit Go.Maps
set_option linter.unusedVariables false
set_option linter.unusedSimpArgs false

set_option maxRecDepth 100000 in
set_option maxHeartbeats 8000000 in
theorem number_23 {P : JP} {n i : Int} {cnt : Nat} {seen : Int → Bool} {w : World} (h : JS P n i cnt seen w) (f : Fu) (x : In) (hop : x.op = 23) (hwk : wfI x.k) (hxl : x.l.length ≤ 8000000000000) (hcl : f.code.length ≤ 20000000000000) (hfl : P.len ≤ 20000000000000) (hm0 : 0 ≤ P.mg) (hm1 : P.mg ≤ 9223372036854775807) (hcnt : cnt ≤ 8000000000000) (R : Ending → World → Prop)
    (hy : numOk P.F P.mg f i x seen = true → ∀ w', JS P n i (nCnt x.op cnt) (nSeen x.op x.k seen) w' → Fr P.S w w' → R (.returned (.tuple #[])) w') (hn : numOk P.F P.mg f i x seen = false → ∀ w', Fr P.S w w' → R (thrown n i) w') :
    Calls Tryz.prog 175 #[.pointer (some ⟨P.jb, 0, none⟩), .agg f.arr, .agg x.arr] w R := by
  have HYES : Hid _ := hy
  have HNO : Hid _ := hn
  clear hy hn
  have F0 : Fr [] w ((w.alloc (.cells f.arr 87)).alloc (.cells x.arr 80)) := ((Fr.refl _ _).alloc _).alloc _
  have b1 := heap_alloc_new w (.cells f.arr 87)
  have bf := (((Fr.refl [] (w.alloc (.cells f.arr 87))).alloc (.cells x.arr 80)).block _ (Array.getElem?_eq_some_iff.1 b1).1 (by simp)).trans b1
  have bx : ((w.alloc (.cells f.arr 87)).alloc (.cells x.arr 80)).heap[w.heap.size + 1]? = some (.cells x.arr 80 (0, 0)) := blk2 w _ _
  have J0 := h.fr0 F0
  have HJ : Hid (JS P n i cnt seen ((w.alloc (.cells f.arr 87)).alloc (.cells x.arr 80))) := J0
  have HF : Hid (Fr [] w ((w.alloc (.cells f.arr 87)).alloc (.cells x.arr 80))) := F0
  have hxlI : (x.l.length : Int) ≤ 8000000000000 := by omega
  have hclI : (f.code.length : Int) ≤ 20000000000000 := by omega
  have hflI : (P.len : Int) ≤ 20000000000000 := by omega
  clear h F0 b1
  obtain ⟨xop, xa, xb, xc, xk, xla, xlc, xl⟩ := x
  unfold In.arr Fu.arr at *
  simp only at *
  subst hop
  go_enter Tryz.func175, Tryz.ntmps175
  go_upto_region 1 with fail
  generalize (w.alloc (.cells #[.string f.name, .int .i64 f.ps, .int .i64 f.rs, .slice f.ca f.code.length f.cc] 87)).alloc (.cells #[.int .i64 23, .int .i64 xa, .int .i64 xb, .int .i64 xc, .int .i64 xk, .slice xla xl.length xlc] 80) = W0 at *
  have x0 : ∀ w', Fr [] W0 w' → w'.cell? ⟨w.heap.size + 1, 0, none⟩ = some (.int .i64 23) := fun w' f => f.cell1 (at_cells bx 0 rfl) (by simp)
  have x1 : ∀ w', Fr [] W0 w' → w'.cell? ⟨w.heap.size + 1, 1, none⟩ = some (.int .i64 xa) := fun w' f => f.cell1 (at_cells bx 1 rfl) (by simp)
  have x2 : ∀ w', Fr [] W0 w' → w'.cell? ⟨w.heap.size + 1, 2, none⟩ = some (.int .i64 xb) := fun w' f => f.cell1 (at_cells bx 2 rfl) (by simp)
  have x3 : ∀ w', Fr [] W0 w' → w'.cell? ⟨w.heap.size + 1, 3, none⟩ = some (.int .i64 xc) := fun w' f => f.cell1 (at_cells bx 3 rfl) (by simp)
  have x4 : ∀ w', Fr [] W0 w' → w'.cell? ⟨w.heap.size + 1, 4, none⟩ = some (.int .i64 xk) := fun w' f => f.cell1 (at_cells bx 4 rfl) (by simp)
  have x5 : ∀ w', Fr [] W0 w' → w'.cell? ⟨w.heap.size + 1, 5, none⟩ = some (.slice xla xl.length xlc) := fun w' f => f.cell1 (at_cells bx 5 rfl) (by simp)
  have ff0 : ∀ w', Fr [] W0 w' → w'.cell? ⟨w.heap.size, 0, none⟩ = some (.string f.name) := fun w' f => f.cell1 (at_cells bf 0 rfl) (by simp)
  have ff1 : ∀ w', Fr [] W0 w' → w'.cell? ⟨w.heap.size, 1, none⟩ = some (.int .i64 f.ps) := fun w' f => f.cell1 (at_cells bf 1 rfl) (by simp)
  have ff2 : ∀ w', Fr [] W0 w' → w'.cell? ⟨w.heap.size, 2, none⟩ = some (.int .i64 f.rs) := fun w' f => f.cell1 (at_cells bf 2 rfl) (by simp)
  have ff3 : ∀ w', Fr [] W0 w' → w'.cell? ⟨w.heap.size, 3, none⟩ = some (.slice f.ca f.code.length f.cc) := fun w' f => f.cell1 (at_cells bf 3 rfl) (by simp)
  have j0 : ∀ w', Fr [] W0 w' → w'.cell? ⟨P.jb, 0, none⟩ = some (.slice P.fa P.len P.cap) := fun w' f => f.cell1 (at_cells J0.blk 0 rfl) (by simp)
  have j1 : ∀ w', Fr [] W0 w' → w'.cell? ⟨P.jb, 1, none⟩ = some (.int .i64 P.mn) := fun w' f => f.cell1 (at_cells J0.blk 1 rfl) (by simp)
  have j2 : ∀ w', Fr [] W0 w' → w'.cell? ⟨P.jb, 2, none⟩ = some (.int .i64 P.mg) := fun w' f => f.cell1 (at_cells J0.blk 2 rfl) (by simp)
  have j3 : ∀ w', Fr [] W0 w' → w'.cell? ⟨P.jb, 3, none⟩ = some (.map (some P.mb)) := fun w' f => f.cell1 (at_cells J0.blk 3 rfl) (by simp)
  have j4 : ∀ w', Fr [] W0 w' → w'.cell? ⟨P.jb, 4, none⟩ = some (.int .i64 n) := fun w' f => f.cell1 (at_cells J0.blk 4 rfl) (by simp)
  have j5 : ∀ w', Fr [] W0 w' → w'.cell? ⟨P.jb, 5, none⟩ = some (.int .i64 i) := fun w' f => f.cell1 (at_cells J0.blk 5 rfl) (by simp)
  have RF : Fr [] W0 W0 := Fr.refl _ _
  have HD : ∀ w' : World, Fr [] W0 w' → Fr [] W0 w'.drew := fun w' h => h.drew
  have x0' := x0 _ RF
  have x1' := x1 _ RF
  have x2' := x2 _ RF
  have x3' := x3 _ RF
  have x4' := x4 _ RF
  have x5' := x5 _ RF
  have ff3' := ff3 _ RF
  have j5' := j5 _ RF
  have j0w := j0 _ RF
  have hl1 : IntKind.i64.wrap ((P.len : Int) - 1) = (P.len : Int) - 1 := wrapm1 (by omega) (by omega)
  have C := fun w' (g : Fr [] W0 w') => within_any (HJ.out.blk.fr g (by simp)) xk 0 ((P.len : Int) - 1)
  have HK : Hid (numOk P.F P.mg f i ⟨23, xa, xb, xc, xk, xla, xlc, xl⟩ seen = (decide (0 ≤ xk ∧ xk ≤ (P.F.length : Int) - 1) && decide ((xl.length : Int) = psAt P.F xk))) := rfl
  have HLN : Hid (P.F.length = P.len) := J0.ln
  rw [HLN.out] at HK
  by_cases h1 : 0 ≤ xk ∧ xk ≤ (P.len : Int) - 1
  · rw [decide_eq_true h1] at C
    obtain ⟨q, rfl⟩ := Int.eq_ofNat_of_zero_le h1.1
    have hq : q < P.F.length := by have := HLN.out; omega
    have hg : P.F[q]? = some P.F[q] := List.getElem?_eq_getElem hq
    have hps : psAt P.F (q : Int) = (P.F[q]).ps := by unfold psAt; rw [Int.toNat_natCast, hg]
    rw [hps] at HK
    generalize P.F[q] = g at *
    obtain ⟨gb, go, hfa, hgb, hgc⟩ := J0.fat q g hg
    have hqI : (q : Int) < (P.len : Int) := by omega
    have hpc : ∀ w', Fr [] W0 w' → w'.cell? ⟨gb, go + q * 4 + 1, none⟩ = some (.int .i64 g.ps) := fun w' f' => f'.cell1 hgc.c1 (by simp)
    clear hg hps
    have j0' := j0
    rw [hfa] at j0'
    clear j0 hfa j0w
    clear J0
    by_cases h2 : (xl.length : Int) = g.ps
    · have HO : Hid (numOk P.F P.mg f i ⟨23, xa, xb, xc, (q : Int), xla, xlc, xl⟩ seen = true) := by unfold Hid; rw [HK.out, decide_eq_true h1]; simp [h2]
      have D := fun w' => want_yes P.jb w'
      have d2 : ((xl.length : Int) == g.ps) = true := by simpa using h2
      have Hh1 : Hid (0 ≤ (q : Int) ∧ (q : Int) ≤ (P.len : Int) - 1) := h1
      clear HK h1 h2
      go_wp2_with fail
      go_region_held3 (fun w' : World => Fr [] W0 w')
        (with_reducible (first | assumption | exact HD _ (by assumption)))
        (first
          | (go_at_call 155; with_reducible (refine (C _ (by assumption)).mono ?_); intro e w1 hE; obtain ⟨rfl, rfl⟩ := Out.yesW hE))
      go_wp2_with fail
      go_region_held3 (fun w' : World => Fr [] W0 w')
        (with_reducible (first | assumption | exact HD _ (by assumption) | exact HD _ (HD _ RF)))
        (first
          | (go_at_call 154; with_reducible (refine (D _).mono ?_); rintro e w1 ⟨rfl, rfl⟩))
      go_wp2
      go_end0
      exact HYES.out HO.out _ (HJ.out.fr0 (HD _ (HD _ RF))) ((HF.out.trans (HD _ (HD _ RF))).sub (by simp))
    · have HO : Hid (numOk P.F P.mg f i ⟨23, xa, xb, xc, (q : Int), xla, xlc, xl⟩ seen = false) := by unfold Hid; rw [HK.out, decide_eq_false h2]; simp
      have D := fun w' (g : Fr [] W0 w') => want_no (HJ.out.blk.fr g (by simp))
      have d2 : ((xl.length : Int) == g.ps) = false := by simpa using h2
      clear HK h1 h2
      go_wp2_with fail
      go_region_held3 (fun w' : World => Fr [] W0 w')
        (with_reducible (first | assumption | exact HD _ (by assumption)))
        (first
          | (go_at_call 155; with_reducible (refine (C _ (by assumption)).mono ?_); intro e w1 hE; obtain ⟨rfl, rfl⟩ := Out.yesW hE))
      go_wp2_with fail
      have y5 : W0.drew.cell? ⟨w.heap.size + 1, 5, none⟩ = _ := x5 _ (HD _ RF)
      have y4 : W0.drew.cell? ⟨w.heap.size + 1, 4, none⟩ = _ := x4 _ (HD _ RF)
      have y0 : W0.drew.cell? ⟨P.jb, 0, none⟩ = _ := j0' _ (HD _ RF)
      have y1 := hpc _ (HD _ RF)
      clear x0 x1 x2 x3 x4 x5 ff0 ff1 ff2 ff3 j1 j2 j3 j4 j5 j0' hpc x0' x1' x2' x3' x4' x5' ff3' j5' C bx bf hgc hwk hE hl1
      go_region_dies
      all_goals
        with_reducible (refine (D _ (HD _ (HD _ RF))).mono ?_)
        rintro e w1 ⟨rfl, rfl⟩
        exact bodyPost_panic rfl (HNO.out HO.out _ ((HF.out.trans (HD _ (HD _ RF))).sub (by simp)))
  · rw [decide_eq_false h1] at C
    have HO : Hid (numOk P.F P.mg f i ⟨23, xa, xb, xc, xk, xla, xlc, xl⟩ seen = false) := by unfold Hid; rw [HK.out, decide_eq_false h1]; rfl
    clear HK h1
    go_wp2_with fail
    go_region_dies
    all_goals
      with_reducible (refine (C _ (HD _ RF)).mono ?_)
      intro e w1 hE
      obtain ⟨rfl, rfl⟩ := Out.no hE
      exact bodyPost_panic rfl (HNO.out HO.out _ ((HF.out.trans (HD _ RF)).sub (by simp)))

end Go.Proofs.YtkjkpkmmojchiaaGreatDoor
