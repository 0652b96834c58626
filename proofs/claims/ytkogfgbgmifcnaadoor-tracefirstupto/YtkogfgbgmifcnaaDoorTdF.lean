/-
  The chapter's example, gone through; condition: the table lies as laid.
-/
import Derived.Test.YtkogfgbgmifcnaaDoorTdE
import Derived.Test.YtkogfgbgmifcnaaDoorTdB
import Derived.Test.YtkogfgbgmifcnaaDoorTcX
namespace Go.Proofs.YtkogfgbgmifcnaaDoor
open Go.RowKit Go.Shelf Go.Maps Go.ChangeShapes
set_option linter.unusedVariables false
set_option linter.unusedSimpArgs false
/-- The example's trace with another back. -/
def exZ (n : Nat) (z : Int) : Tr := { exT n with back := [⟨1, 0, 0, z⟩] }
theorem exZ_ok {W : World} {n : Nat} {z : Int}
    (h1 : W.heap[n + 1]? = some (.cells #[.int .i64 0] 3 (0, 0)))
    (h3 : W.heap[n + 3]? = some (.cells (flatS [⟨1, 0, 0, 0⟩, ⟨0, 0, 1, 0⟩]).toArray 51 (0, 0)))
    (h4 : W.heap[n + 4]? = some (.cells (flatE (exT n).ops).toArray 48 (0, 0)))
    (h5 : W.heap[n + 5]? = some (.cells (flatE (exT n).links).toArray 57 (0, 0)))
    (h7 : W.heap[n + 7]? = some (.cells (flatS [⟨1, 0, 0, z⟩]).toArray 51 (0, 0))) : TrOk W 0 (exZ n z) := by
  have s3 : SL W 0 51 (some ⟨n + 3, 0, none⟩) 2 2 4 32 (flatS [⟨1, 0, 0, 0⟩, ⟨0, 0, 1, 0⟩]) := SL.own (B0 := 0) ⟨rfl, .inr ⟨_, _, _, rfl, Nat.zero_le _, h3, Nat.le_refl _, by decide, rfl, rfl⟩⟩ rfl (by decide)
  refine ⟨SL.own (B0 := 0) ⟨rfl, .inr ⟨_, _, _, rfl, Nat.zero_le _, h1, Nat.le_refl _, by simp [exZ, exT, maxLen], rfl, rfl⟩⟩ rfl (by simp [exZ, exT]), SL.own (B0 := 0) ⟨rfl, .inr ⟨_, _, _, rfl, Nat.zero_le _, h4, Nat.le_refl _, by simp [exZ, exT, maxLen], rfl, rfl⟩⟩ rfl (by simp [exZ, exT]), fun e he => ?_,
    SL.own (B0 := 0) ⟨rfl, .inr ⟨_, _, _, rfl, Nat.zero_le _, h5, Nat.le_refl _, by simp [exZ, exT, maxLen], rfl, rfl⟩⟩ rfl (by simp [exZ, exT]), fun e he => ?_, SL.nil _ _ _ _ rfl, fun e he => by simp [exZ, exT] at he, SL.own (B0 := 0) ⟨rfl, .inr ⟨_, _, _, rfl, Nat.zero_le _, h7, Nat.le_refl _, by simp [exZ, exT, maxLen], rfl, rfl⟩⟩ rfl (by simp [exZ, exT])⟩
  · simp only [exZ, exT, List.mem_cons, List.not_mem_nil, or_false] at he
    rcases he with rfl | rfl
    · exact ⟨rfl, rfl, SL.nil _ _ _ _ rfl⟩
    · exact ⟨rfl, rfl, s3⟩
  · simp only [exZ, exT, List.mem_cons, List.not_mem_nil, or_false] at he
    subst he
    exact ⟨rfl, rfl, SL.nil _ _ _ _ rfl⟩
theorem exZ_abs (n : Nat) : ATOk (exZ n 3).abs := by
  refine ⟨(ex_abs n).kw, fun s hs => ?_, (ex_abs n).ow, (ex_abs n).lw, (ex_abs n).vw⟩
  simp [exZ, exT, Tr.abs] at hs
  subst hs
  unfold Sr.w Sr.il
  decide
theorem exZ_whole (n : Nat) : wholeP (exZ n 3).abs = some 2 := by
  have : (exZ n 3).abs = (exZ 0 3).abs := rfl
  rw [this]
  decide +kernel
theorem ex_uses : Lib.compact ((vr [⟨1, 0, 0, 0⟩, ⟨0, 0, 1, 0⟩]).mergeSort fun x y => decide (x ≤ y)) = [0] := by decide +kernel
theorem ex_walk (n : Nat) : (walkP (exT n).abs (MK.start (exT n).abs) 0).1 = [] := by
  have : (exT n).abs = (exT 0).abs := rfl
  rw [this]
  decide +kernel
set_option maxRecDepth 100000 in
set_option maxHeartbeats 16000000 in
theorem awake8 {w : World} (ht : Tab w) : Calls Tryd.prog 8 #[] w fun e w' => e = .returned (.bool true) ∧ Fr [] w w' := by
  have L1 := loop24 w
  have C1 := check23 (tellSpec _) (ht.fr0 (ex_fr w)) (ex_ok w) (ex_abs _)
  rw [show chkAt (exT w.heap.size).abs = 0 by unfold chkAt; rw [ex_whole]; rfl, show chkE (exT w.heap.size).abs = 0 by unfold chkE; rw [ex_whole]; rfl] at C1
  have HW : Hid (Tab (exW w) ∧ Fr [] w (exW w)) := ⟨ht.fr0 (ex_fr w), ex_fr w⟩
  clear ht
  go_enter Tryd.func8, Tryd.ntmps8
  go_upto_region 2 with (first
    | (go_at_call 24; refine L1.mono ?_; rintro e W ⟨rfl, rfl⟩; clear L1)
    | (go_at_call 23; refine C1.mono ?_; rintro e W1 ⟨rfl, f1⟩; have H1 : Hid (Tab W1 ∧ Fr [] w W1) := ⟨HW.out.1.fr0 f1, HW.out.2.trans f1⟩; clear f1 C1 HW))
  have L2 := loop24 W1
  go_upto_region 3 with (first
    | (go_at_call 24; refine L2.mono ?_; rintro e W ⟨rfl, rfl⟩; clear L2; have HA : Hid (((exW W1).alloc (.cells #[.int .i64 0, .int .i64 0, .int .i64 0, .int .i64 0, .int .i64 0, .int .i64 0, .int .i64 0, .int .i64 0, .int .i64 0, .int .i64 0, .int .i64 0, .int .i64 0, .slice none 0 0, .slice none 0 0, .slice none 0 0, .slice none 0 0, .slice none 0 0] 33)).heap[(exW W1).heap.size]? = some (.cells #[.int .i64 0, .int .i64 0, .int .i64 0, .int .i64 0, .int .i64 0, .int .i64 0, .int .i64 0, .int .i64 0, .int .i64 0, .int .i64 0, .int .i64 0, .int .i64 0, .slice none 0 0, .slice none 0 0, .slice none 0 0, .slice none 0 0, .slice none 0 0] 33 (0, 0))) := heap_alloc_new _ _)
    | refine wpList_st35 rfl (.tmp 3) (.tmp 12) rfl (exW W1).heap.size (exT W1.heap.size).arr rfl rfl _ HA.out (Tr.arr_size _) rfl (Tr.arr_one _) ?_)
  have fB : Fr [] (exW W1) (((exW W1).alloc (.cells #[.int .i64 0, .int .i64 0, .int .i64 0, .int .i64 0, .int .i64 0, .int .i64 0, .int .i64 0, .int .i64 0, .int .i64 0, .int .i64 0, .int .i64 0, .int .i64 0, .slice none 0 0, .slice none 0 0, .slice none 0 0, .slice none 0 0, .slice none 0 0] 33)).setRow (exW W1).heap.size (exT W1.heap.size).arr) := ((Fr.refl [] _).alloc _).setRow (.inr (Nat.le_refl _)) _
  have bT : (((exW W1).alloc (.cells #[.int .i64 0, .int .i64 0, .int .i64 0, .int .i64 0, .int .i64 0, .int .i64 0, .int .i64 0, .int .i64 0, .int .i64 0, .int .i64 0, .int .i64 0, .int .i64 0, .slice none 0 0, .slice none 0 0, .slice none 0 0, .slice none 0 0, .slice none 0 0] 33)).setRow (exW W1).heap.size (exT W1.heap.size).arr).heap[(exW W1).heap.size]? = some (.cells (exT W1.heap.size).arr 33 (0, 0)) := setRow_heap _ _ _ _ _ _ HA.out
  have g1 : (exW W1).heap[W1.heap.size + 1]? = some (.cells #[.int .i64 0] 3 (0, 0)) := chain_at _ W1 1 _ rfl
  have g3 : (exW W1).heap[W1.heap.size + 3]? = some (.cells (flatS [⟨1, 0, 0, 0⟩, ⟨0, 0, 1, 0⟩]).toArray 51 (0, 0)) := chain_at _ W1 3 _ rfl
  have g4 : (exW W1).heap[W1.heap.size + 4]? = some (.cells (flatE (exT W1.heap.size).ops).toArray 48 (0, 0)) := chain_at _ W1 4 _ rfl
  have g5 : (exW W1).heap[W1.heap.size + 5]? = some (.cells (flatE (exT W1.heap.size).links).toArray 57 (0, 0)) := chain_at _ W1 5 _ rfl
  have g7 : (exW W1).heap[W1.heap.size + 7]? = some (.cells (flatS [⟨1, 0, 0, 2⟩]).toArray 51 (0, 0)) := chain_at _ W1 7 _ rfl
  have ne : (exW W1).heap.size ≠ W1.heap.size + 7 := fun e => by have := at_lt g7; omega
  have b1 := (fB.block _ (at_lt g1) (by simp)).trans g1
  have b3 := (fB.block _ (at_lt g3) (by simp)).trans g3
  have b4 := (fB.block _ (at_lt g4) (by simp)).trans g4
  have b5 := (fB.block _ (at_lt g5) (by simp)).trans g5
  have b7 := (fB.block _ (at_lt g7) (by simp)).trans g7
  have HV : Hid (Tab (((exW W1).alloc (.cells #[.int .i64 0, .int .i64 0, .int .i64 0, .int .i64 0, .int .i64 0, .int .i64 0, .int .i64 0, .int .i64 0, .int .i64 0, .int .i64 0, .int .i64 0, .int .i64 0, .slice none 0 0, .slice none 0 0, .slice none 0 0, .slice none 0 0, .slice none 0 0] 33)).setRow (exW W1).heap.size (exT W1.heap.size).arr) ∧ Fr [] w (((exW W1).alloc (.cells #[.int .i64 0, .int .i64 0, .int .i64 0, .int .i64 0, .int .i64 0, .int .i64 0, .int .i64 0, .int .i64 0, .int .i64 0, .int .i64 0, .int .i64 0, .int .i64 0, .slice none 0 0, .slice none 0 0, .slice none 0 0, .slice none 0 0, .slice none 0 0] 33)).setRow (exW W1).heap.size (exT W1.heap.size).arr)) := ⟨(H1.out.1.fr0 (ex_fr W1)).fr0 fB, (H1.out.2.trans (ex_fr W1)).trans fB⟩
  have hn : w.heap.size ≤ W1.heap.size := H1.out.2.size
  clear HA fB g1 g3 g4 g5 g7 H1
  generalize ((exW W1).alloc (.cells #[.int .i64 0, .int .i64 0, .int .i64 0, .int .i64 0, .int .i64 0, .int .i64 0, .int .i64 0, .int .i64 0, .int .i64 0, .int .i64 0, .int .i64 0, .int .i64 0, .slice none 0 0, .slice none 0 0, .slice none 0 0, .slice none 0 0, .slice none 0 0] 33)).setRow (exW W1).heap.size (exT W1.heap.size).arr = V at *
  generalize (exW W1).heap.size = T at *
  generalize W1.heap.size = n at *
  have c16 : V.cell? ⟨T, 16, none⟩ = some (.slice (some ⟨n + 7, 0, none⟩) 1 1) := at_cells bT 16 (exT n).at_back
  have c7 : V.cell? ⟨n + 7, 3, none⟩ = some (.int .i64 2) := at_cells b7 3 rfl
  have fz : V.frozen? ⟨n + 7, 3, none⟩ = false := frz b7
  go_upto_region 4 with fail
  have x1 := set_oth (j := n + 7) (i := 3) (v := .int .i64 3) (by omega) b1
  have x3 := set_oth (j := n + 7) (i := 3) (v := .int .i64 3) (by omega) b3
  have x4 := set_oth (j := n + 7) (i := 3) (v := .int .i64 3) (by omega) b4
  have x5 := set_oth (j := n + 7) (i := 3) (v := .int .i64 3) (by omega) b5
  have x7 : (V.setCell ⟨n + 7, 3, none⟩ (.int .i64 3)).heap[n + 7]? = some (.cells (flatS [⟨1, 0, 0, 3⟩]).toArray 51 (0, 0)) := set_cells 3 _ b7
  have xT := set_oth (j := n + 7) (i := 3) (v := .int .i64 3) ne bT
  have hn7 : 0 ∉ [n + 7] := by simp
  have HX : Hid (Tab (V.setCell ⟨n + 7, 3, none⟩ (.int .i64 3)) ∧ Fr [] w (V.setCell ⟨n + 7, 3, none⟩ (.int .i64 3))) := ⟨HV.out.1.fr ((Fr.refl [n + 7] V).setCell (.inl (by simp)) _) hn7, HV.out.2.setCell (p := ⟨n + 7, 3, none⟩) (.inr (by show w.heap.size ≤ n + 7; omega)) _⟩
  clear b1 b3 b4 b5 b7 bT HV c16 c7 fz hn7
  generalize V.setCell ⟨n + 7, 3, none⟩ (.int .i64 3) = X at *
  have C2 := check23 (t := exZ n 3) (tellSpec (exZ n 3)) HX.out.1 (exZ_ok x1 x3 x4 x5 x7) (exZ_abs n)
  rw [show chkAt (exZ n 3).abs = 2 by unfold chkAt; rw [exZ_whole]; rfl, show chkE (exZ n 3).abs = 160 by unfold chkE; rw [exZ_whole]; rfl] at C2
  change Calls Tryd.prog 23 #[.agg (exT n).arr] X _ at C2
  have HT : Hid (X.heap[T]? = some (.cells (exT n).arr 33 (0, 0))) := xT
  clear x1 x3 x4 x5 x7 xT
  go_upto_region 5 with (first
    | refine wpList_ld33 rfl (.tmp 3) rfl T rfl (exT n).arr (Tr.arr_size _) HT.out ?_
    | (go_at_call 23; refine C2.mono ?_; rintro e X1 ⟨rfl, f1⟩; have H2 : Hid (Tab X1 ∧ Fr [] w X1) := ⟨HX.out.1.fr0 f1, HX.out.2.trans f1⟩; clear f1 C2 HX))
  have L3 := loop24 X1
  have CU : Calls Tryd.prog 18 #[.agg (exT X1.heap.size).arr, .int .i64 1] (exW X1) _ := uses18 (tellSpec (exT X1.heap.size)) (H2.out.1.fr0 (ex_fr X1)) (ex_ok X1) (ex_abs _) (ex_whole _) (i := 1) rfl (by simp [exT]) (ex_walk _)
  rw [ex_uses] at CU
  go_upto_region 6 with (first
    | (go_at_call 24; refine L3.mono ?_; rintro e W ⟨rfl, rfl⟩; clear L3)
    | (go_at_call 18; refine CU.mono ?_; rintro e Y ⟨a', c', rfl, ha', fU⟩; have H3 : Hid (Tab Y ∧ Fr [] w Y) := ⟨(H2.out.1.fr0 (ex_fr X1)).fr0 fU, (H2.out.2.trans (ex_fr X1)).trans fU⟩; clear fU CU H2))
  obtain ⟨ub, rfl, cu⟩ := ha' 0 0 rfl
  clear ha'
  have M12 := makes12 H3.out.1 4
  rw [show (rowP 4).mkv = true by decide +kernel] at M12
  go_wp2_with (first
    | (go_at_call 12; refine M12.mono ?_; rintro e Y1 ⟨rfl, f1⟩; have H4 : Hid (Tab Y1 ∧ Fr [] w Y1) := ⟨H3.out.1.fr0 f1, H3.out.2.trans f1⟩; clear f1 M12 H3; have M14 := may14 H4.out.1 26; rw [show (rowP 26).myv = true by decide +kernel] at M14)
    | (go_at_call 14; refine M14.mono ?_; rintro e Y2 ⟨rfl, f1⟩; have H5 : Hid (Tab Y2 ∧ Fr [] w Y2) := ⟨H4.out.1.fr0 f1, H4.out.2.trans f1⟩; clear f1 M14 H4; have M16 := args16 H5.out.1 32; rw [show (rowP 32).ar = 2 by decide +kernel] at M16)
    | (go_at_call 16; refine M16.mono ?_; rintro e Y3 ⟨rfl, f1⟩; have H6 : Hid (Fr [] w Y3) := H5.out.2.trans f1; clear f1 M16 H5))
  go_ret
  exact ⟨rfl, H6.out⟩
end Go.Proofs.YtkogfgbgmifcnaaDoor
