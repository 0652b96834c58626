/-
  Ban of a book of the program; condition: the book lies as told, no key stands twice.
-/
import Derived.Test.YtjeddgjndpdhoaaPrE
namespace Go.Proofs.Ytjeddgjndpdhoaa
open Go.RowKit Go.Shelf Go.Maps Go.ChangeShapes
set_option linter.unusedVariables false
set_option linter.unusedSimpArgs false

theorem KB.fr {w w' : World} {b o : Nat} {x0 x1 x2 x3 x4 x5 x6 x7 x8 x9 : Int} {S : List Nat} (h : KB w b o x0 x1 x2 x3 x4 x5 x6 x7 x8 x9) (f : Fr S w w') (hS : b ∉ S) : KB w' b o x0 x1 x2 x3 x4 x5 x6 x7 x8 x9 :=
  ⟨f.cell1 h.c0 hS, f.cell1 h.c1 hS, f.cell1 h.c2 hS, f.cell1 h.c3 hS, f.cell1 h.c4 hS, f.cell1 h.c5 hS, f.cell1 h.c6 hS, f.cell1 h.c7 hS, f.cell1 h.c8 hS, f.cell1 h.c9 hS⟩
def banB (S : Bk) (k : Ky) : Bk := { S with L := delL S.L k, O := addO S.O k }
set_option maxRecDepth 100000 in
theorem ban_any {w : World} {b mb bb : Nat} {S : Bk} (h : BA w b mb bb S) (hn : Nd S.L) (hO : S.O.length ≤ 100000) {k : Ky} (hk : kw k) : Calls Try.prog 14 #[.pointer (some ⟨b, 0, none⟩), .agg (kc k)] w fun e w' => e = .returned (.tuple #[]) ∧ Fr [mb, bb] w w' ∧ BA w' b mb bb (banB S k) := by
  obtain ⟨x0, x1, x2, x3, x4, x5, x6, x7, x8, x9, hkc⟩ := kc_ten k
  obtain ⟨W, hW⟩ : ∃ W, W = w.alloc (.cells (kc k) 28) := ⟨_, rfl⟩
  have F : Hid (Fr [] w W) := by rw [hW]; exact (Fr.refl [] w).alloc _
  have hb : BA W b mb bb S := by rw [hW]; exact h.box _
  have C := alive_any hb
  have hbs : b < w.heap.size := (Array.getElem?_eq_some_iff.1 h.blk).1
  have hmbs := h.cm.lt
  have hbbs := h.bm.lt
  have KK0 : W.heap[w.heap.size]? = some (.cells (kc k) 28 (0, 0)) := by rw [hW]; exact heap_alloc_new _ _
  obtain ⟨W2, r2, cm2, f2, z2⟩ := hb.drew.cm.drop hn hk 0
  have hb2 : W2.heap[b]? = _ := (f2.block b (Array.getElem?_eq_some_iff.1 hb.drew.blk).1 (by simpa using hb.cm.noCells hb.blk)).trans hb.drew.blk
  have bm2 : BM W2 bb S.O := hb.drew.bm.fr f2 (by simpa using hb.ne.symm)
  obtain ⟨W3, r3, bm3, f3, z3⟩ := (bm2.fr (Fr.refl [] W2).drew (by simp)).store hO hk
  have cc : W.cell? ⟨b, 1, none⟩ = some (.map (some mb)) := at_cells hb.blk 1 rfl
  have cc2 : W2.cell? ⟨b, 2, none⟩ = some (.map (some bb)) := at_cells hb2 2 rfl
  have fin : Hid (Fr [mb, bb] w W3 ∧ BA W3 b mb bb (banB S k)) := by
    have F1 : Fr [mb, bb] w W2 := (F.out.drew.sub (by simp)).trans (f2.sub (by simp))
    have g3 : Fr [bb] W2 W3 := ⟨f3.os, f3.tape, f3.output, f3.size, f3.block⟩
    have F2 : Fr [mb, bb] w W3 := F1.trans (g3.sub (by simp))
    refine ⟨F2, (f3.block b ?_ ?_).trans hb2, cm2.fr g3 ?_, bm3, hb.ne, h.thr⟩
    · exact (Array.getElem?_eq_some_iff.1 hb2).1
    · simpa using bm2.noCells hb2
    · simpa using hb.ne
  have KK1 : KB W w.heap.size 0 x0 x1 x2 x3 x4 x5 x6 x7 x8 x9 := by rw [hW, hkc]; exact KB.new _ _ _ _ _ _ _ _ _ _ _ _
  have KK2 : KB W2 w.heap.size 0 x0 x1 x2 x3 x4 x5 x6 x7 x8 x9 := (KK1.fr (Fr.refl [] W).drew (by simp)).fr f2 (by simp; omega)
  rw [hkc] at hW r2 r3 ⊢
  have m0 : W.cell? ⟨w.heap.size, 0, none⟩ = some (.int .i64 x0) := KK1.c0
  have m1 : W.cell? ⟨w.heap.size, 1, none⟩ = some (.int .i64 x1) := KK1.c1
  have m2 : W.cell? ⟨w.heap.size, 2, none⟩ = some (.int .i64 x2) := KK1.c2
  have m3 : W.cell? ⟨w.heap.size, 3, none⟩ = some (.int .i64 x3) := KK1.c3
  have m4 : W.cell? ⟨w.heap.size, 4, none⟩ = some (.int .i64 x4) := KK1.c4
  have m5 : W.cell? ⟨w.heap.size, 5, none⟩ = some (.int .i64 x5) := KK1.c5
  have m6 : W.cell? ⟨w.heap.size, 6, none⟩ = some (.int .i64 x6) := KK1.c6
  have m7 : W.cell? ⟨w.heap.size, 7, none⟩ = some (.int .i64 x7) := KK1.c7
  have m8 : W.cell? ⟨w.heap.size, 8, none⟩ = some (.int .i64 x8) := KK1.c8
  have m9 : W.cell? ⟨w.heap.size, 9, none⟩ = some (.int .i64 x9) := KK1.c9
  have n0 : W2.cell? ⟨w.heap.size, 0, none⟩ = some (.int .i64 x0) := KK2.c0
  have n1 : W2.cell? ⟨w.heap.size, 1, none⟩ = some (.int .i64 x1) := KK2.c1
  have n2 : W2.cell? ⟨w.heap.size, 2, none⟩ = some (.int .i64 x2) := KK2.c2
  have n3 : W2.cell? ⟨w.heap.size, 3, none⟩ = some (.int .i64 x3) := KK2.c3
  have n4 : W2.cell? ⟨w.heap.size, 4, none⟩ = some (.int .i64 x4) := KK2.c4
  have n5 : W2.cell? ⟨w.heap.size, 5, none⟩ = some (.int .i64 x5) := KK2.c5
  have n6 : W2.cell? ⟨w.heap.size, 6, none⟩ = some (.int .i64 x6) := KK2.c6
  have n7 : W2.cell? ⟨w.heap.size, 7, none⟩ = some (.int .i64 x7) := KK2.c7
  have n8 : W2.cell? ⟨w.heap.size, 8, none⟩ = some (.int .i64 x8) := KK2.c8
  have n9 : W2.cell? ⟨w.heap.size, 9, none⟩ = some (.int .i64 x9) := KK2.c9
  have hH : Hid (W = _) := hW
  clear hb h hW hkc KK1 KK2 cm2 bm2 bm3 f2 f3 hb2 KK0 z2 z3 F
  go_enter Try.func14, Try.ntmps14
  go_wp2_with fail
  rw [← hH.out]
  refine C.mono ?_
  rintro e w' ⟨rfl, hw⟩
  rw [hw]
  clear hw
  go_wp2
  go_region
  all_goals go_wp2
  all_goals go_region
  all_goals go_wp2

  all_goals exact bodyPost_end (results_none rfl _ _ _) rfl ⟨rfl, fin.out⟩
end Go.Proofs.Ytjeddgjndpdhoaa
