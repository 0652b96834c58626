/-
  The chapter's example comes out true; no condition.
-/
import Derived.Test.YtjeddgjndpdhoaaPrR
import Derived.Deep.Cut
namespace Go.Proofs.Ytjeddgjndpdhoaa
open Go.RowKit Go.Shelf Go.Maps Go.ChangeShapes
set_option linter.unusedVariables false
set_option linter.unusedSimpArgs false

def kA : Ky := (1, 1, 0, 2, 0, 0, 0, 0, 0, 0)
def sA : Bk := ⟨3, [], 0, []⟩
theorem kA_w : kw kA := by
  intro x hx
  have : x = 0 ∨ x = 1 ∨ x = 2 := by simp [kA, kl0] at hx; omega
  rcases this with rfl | rfl | rfl <;> decide
theorem kA_p : keyP 1 [(0, 2)] = (kA, true) := by decide
theorem sA_ok : Ok sA := ok_new 3 (by omega)
theorem sA_1 : (hitB sA kA).2 = false := by decide
theorem sA_2 : (hitB (hitB sA kA).1 kA).2 = false := by decide
theorem sA_3 : (hitB (hitB (hitB sA kA).1 kA).1 kA).2 = true := by decide
theorem sA_c : cntL (hitB (hitB (hitB sA kA).1 kA).1 kA).1.L kA = 0 := by decide
theorem sA_l : (hitB (hitB (hitB sA kA).1 kA).1 kA).1.L.length = 1 := by decide
set_option maxRecDepth 100000 in
set_option maxHeartbeats 2000000 in
theorem awake_any (w : World) : Calls Try.prog 9 #[] w fun e w' => e = .returned (.bool true) ∧ Fr [] w w' := by
  have CN := new_any w 3
  have hm : max (3 : Int) 1 = 3 := by omega
  rw [hm] at CN
  clear hm
  go_enter Try.func9, Try.ntmps9
  go_wp2_with fail
  refine CN.mono ?_
  rintro e w1 ⟨rfl, f1, b1, z1⟩
  have v1 : VAt (w1.heap.size + 1) (w1.alloc (.cells #[.int .i64 0, .int .i64 2] 25)) (some ⟨w1.heap.size, 0, none⟩) [(0, 2)] := by
    intro j p hp
    have hb := heap_alloc_new w1 (.cells #[.int .i64 0, .int .i64 2] 25)
    cases j with
    | zero => simp at hp; subst hp; exact ⟨_, _, rfl, by omega, at_cells hb 0 rfl, at_cells hb 1 rfl⟩
    | succ j => simp at hp
  have CK : Calls Try.prog 10 #[.int .i64 1, .slice (some ⟨w1.heap.size, 0, none⟩) 1 1] (w1.alloc (.cells #[.int .i64 0, .int .i64 2] 25)) (KOut (w1.alloc (.cells #[.int .i64 0, .int .i64 2] 25)) 1 [(0, 2)]) := keyOf_any _ 1 [(0, 2)] _ 1 (w1.heap.size + 1) (by simp) v1 (by simp)
  unfold KOut at CK
  rw [kA_p] at CK
  have F1 : Hid (Fr [] w w1) := f1
  have B1 : Hid (BA w1 (w.heap.size + 2) w.heap.size (w.heap.size + 1) sA) := b1
  have Z1 : Hid (w1.heap.size = w.heap.size + 3) := z1
  clear CN f1 b1 z1 v1
  go_wp2_with fail
  refine CK.mono ?_
  rintro e w2 ⟨rfl, f2⟩
  have F2 : Hid (Fr [] w1 w2) := ((Fr.refl [] w1).alloc _).trans f2
  have zz := heap_alloc_new w2 (.cells Z28 28)
  have HS : Hid ((w2.alloc (.cells Z28 28)).setRow w2.heap.size (kc kA) = w2.alloc (.cells (kc kA) 28)) := World.setRow_alloc_new w2 _ _ _
  obtain ⟨X, hX⟩ : ∃ X, X = w2.alloc (.cells (kc kA) 28) := ⟨_, rfl⟩
  have HX : Hid (X = _) := hX
  have kX : X.heap[w2.heap.size]? = some (.cells (kc kA) 28 (0, 0)) := by rw [hX]; exact heap_alloc_new _ _
  have KX : Hid _ := kX
  have n1 : X.cell? ⟨w2.heap.size, 1, none⟩ = some (.int .i64 1) := at_cells kX 1 rfl
  have FX : Hid (Fr [] w2 X) := by rw [hX]; exact (Fr.refl _ _).alloc _
  unfold Z28 at zz HS
  clear CK f2 hX kX
  go_upto_region 3 with (refine wpList_store_row rfl 28 (.tmp 2) (.tmp 12) rfl w2.heap.size (kc kA) rfl rfl 28 _ zz (by rw [info28, kc_size]) (by rw [kc_size]; rfl) (kc_one _) ?_; rw [HS.out, ← HX.out])
  clear zz HS HX
  try simp only [Act.put]
  go_wp2_with fail
  have hS1 : w.heap.size + 3 ≤ w2.heap.size := by have := F2.out.size; rw [Z1.out] at this; exact this
  have HS1 : Hid (w.heap.size + 3 ≤ w2.heap.size) := hS1
  have bX : BA X (w.heap.size + 2) w.heap.size (w.heap.size + 1) sA := (B1.out.fr F2.out (by simp) (by simp) (by simp)).fr FX.out (by simp) (by simp) (by simp)
  clear hS1 n1
  refine reg9 (k := kA) (kb := w2.heap.size) bX sA_ok (by show (0 : Int) ≤ 1000; omega) kA_w ?_ ?_
  · intro w' f j v hv
    have h0 := HS1.out
    exact at_cells ((f.block _ (Array.getElem?_eq_some_iff.1 KX.out).1 (by simp; omega)).trans KX.out) (0 + j) (by simpa using hv)
  · intro X2 f2 b2
    rw [sA_1, sA_2, sA_3]
    have CC := count_any b2 kA_w
    rw [sA_c] at CC
    have CC : Calls Try.prog 18 #[.pointer (some ⟨w.heap.size + 2, 0, none⟩), .agg #[.int .i64 1, .int .i64 1, .int .i64 0, .int .i64 2, .int .i64 0, .int .i64 0, .int .i64 0, .int .i64 0, .int .i64 0, .int .i64 0]] X2 fun e w' => e = .returned (.int .i64 0) ∧ Fr [] X2 w' := CC
    have k2 : X2.heap[w2.heap.size]? = some (.cells (kc kA) 28 (0, 0)) := (f2.block _ (Array.getElem?_eq_some_iff.1 KX.out).1 (by have h0 := HS1.out; simp; omega)).trans KX.out
    have m0 : X2.cell? ⟨w2.heap.size, 0, none⟩ = some (.int .i64 1) := at_cells k2 0 rfl
    have m1 : X2.cell? ⟨w2.heap.size, 1, none⟩ = some (.int .i64 1) := at_cells k2 1 rfl
    have m2 : X2.cell? ⟨w2.heap.size, 2, none⟩ = some (.int .i64 0) := at_cells k2 2 rfl
    have m3 : X2.cell? ⟨w2.heap.size, 3, none⟩ = some (.int .i64 2) := at_cells k2 3 rfl
    have m4 : X2.cell? ⟨w2.heap.size, 4, none⟩ = some (.int .i64 0) := at_cells k2 4 rfl
    have m5 : X2.cell? ⟨w2.heap.size, 5, none⟩ = some (.int .i64 0) := at_cells k2 5 rfl
    have m6 : X2.cell? ⟨w2.heap.size, 6, none⟩ = some (.int .i64 0) := at_cells k2 6 rfl
    have m7 : X2.cell? ⟨w2.heap.size, 7, none⟩ = some (.int .i64 0) := at_cells k2 7 rfl
    have m8 : X2.cell? ⟨w2.heap.size, 8, none⟩ = some (.int .i64 0) := at_cells k2 8 rfl
    have m9 : X2.cell? ⟨w2.heap.size, 9, none⟩ = some (.int .i64 0) := at_cells k2 9 rfl
    have B2 : Hid _ := b2
    have F3 : Hid (Fr [] w X2) := (((F1.out.trans F2.out).trans FX.out).over f2 (fun i hi => .inr (by simp at hi; omega)))
    clear b2 f2 k2 bX
    go_wp2_with fail
    refine CC.mono ?_
    rintro e X3 ⟨rfl, f3⟩
    have CL := len_any (B2.out.fr f3 (by simp) (by simp) (by simp))
    rw [sA_l] at CL
    have F4 : Hid (Fr [] w X3) := F3.out.trans f3
    clear CC f3 m0 m1 m2 m3 m4 m5 m6 m7 m8 m9
    go_wp2_with fail
    refine CL.mono ?_
    rintro e X4 ⟨rfl, hw⟩
    rw [hw]
    clear hw CL
    go_wp2
    go_ret
    exact ⟨rfl, F4.out⟩
end Go.Proofs.Ytjeddgjndpdhoaa
