/-
  The chapter's example comes out as the laws ask; condition: the tables lie as the program's text lays them.
-/
import Derived.Test.YtdaealionicmjaaDoorIrU
import Derived.Test.YtdaealionicmjaaDoorIrK
import Derived.Deep.Cut
namespace Go.Proofs.YtdaealionicmjaaDoor
open Go.RowKit Go.Maps
set_option linter.unusedVariables false
set_option linter.unusedSimpArgs false

def x0 : In := ⟨1, 0, 0, 0, 5, none, 0, []⟩
def x1 : In := ⟨24, 0, 0, 0, 0, none, 0, []⟩
def fEx (N : Nat) (rs : Int) : Fu := ⟨⟨#[]⟩, 0, rs, some ⟨N, 0, none⟩, 2, [x0, x1]⟩
def code12 : Array Value := #[.int .i64 1, .int .i64 0, .int .i64 0, .int .i64 0, .int .i64 5, .slice none 0 0, .int .i64 24, .int .i64 0, .int .i64 0, .int .i64 0, .int .i64 0, .slice none 0 0]
theorem InOk.nil {B : Nat} {w : World} {op a b c k : Int} : InOk B w ⟨op, a, b, c, k, none, 0, []⟩ := ⟨KAt.nil, by simp, by simp, fun _ => rfl⟩
theorem ex_fu {B : Nat} {W : World} {N : Nat} (rs : Int) (hc : W.heap[N]? = some (.cells code12 39 (0, 0))) (hB : N < B) : FuOk B W (fEx N rs) := by
  refine ⟨fun i x hx => ⟨N, 0, rfl, hB, ?_⟩, by simp [fEx, ByteArray.size], by simp [fEx], by simp [fEx], fun h => by cases h⟩
  match i, hx with
  | 0, hx =>
    simp [fEx] at hx
    subst hx
    exact ⟨at_cells hc 0 rfl, at_cells hc 1 rfl, at_cells hc 2 rfl, at_cells hc 3 rfl, at_cells hc 4 rfl, at_cells hc 5 rfl, InOk.nil⟩
  | 1, hx =>
    simp [fEx] at hx
    subst hx
    exact ⟨at_cells hc 6 rfl, at_cells hc 7 rfl, at_cells hc 8 rfl, at_cells hc 9 rfl, at_cells hc 10 rfl, at_cells hc 11 rfl, InOk.nil⟩
theorem wf5 : wfI 5 := by unfold wfI; decide
theorem wf0 : wfI 0 := by unfold wfI; decide
theorem ex_cd {W : World} {N M : Nat} (rs : Int) (hc : W.heap[N]? = some (.cells code12 39 (0, 0))) (hf : W.heap[M]? = some (.cells #[.string ⟨#[]⟩, .int .i64 0, .int .i64 rs, .slice (some ⟨N, 0, none⟩) 2 2] 34 (0, 0))) (h4 : 4 ≤ W.heap.size) : CdOk W.heap.size W [fEx N rs] (some ⟨M, 0, none⟩) 1 0 := by
  refine ⟨fun i f hi => ⟨M, 0, rfl, (Array.getElem?_eq_some_iff.1 hf).1, ?_⟩, rfl, ⟨?_, ?_, by simp [totC, fEx]⟩, by omega, by omega, h4⟩
  · match i, hi with
    | 0, hi =>
      simp at hi
      subst hi
      exact ⟨at_cells hf 0 rfl, at_cells hf 1 rfl, at_cells hf 2 rfl, at_cells hf 3 rfl, ex_fu rs hc (Array.getElem?_eq_some_iff.1 hc).1⟩
  · intro f hf x hx
    simp at hf
    subst hf
    simp [fEx] at hx
    rcases hx with rfl | rfl
    · exact wf5
    · exact wf0
  · intro f hf x hx
    simp at hf
    subst hf
    simp [fEx] at hx
    rcases hx with rfl | rfl <;> simp [x0, x1]
theorem ex_1 (N : Nat) : checkO [fEx N 1] 0 0 = (0, 0, 0) := by rfl
theorem ex_0 (N : Nat) : checkO [fEx N 0] 0 0 = (0, 0, 100) := by rfl

set_option maxRecDepth 100000 in
set_option maxHeartbeats 4000000 in
theorem awake_any (w : World) (T : Tabs w) : Calls Tryd.prog 8 #[] w fun e w' => e = .returned (.bool true) ∧ Fr [] w w' := by
  have f1 : Fr [] w (w.alloc (.cells code12 39)) := (Fr.refl _ _).alloc _
  have b1 := heap_alloc_new w (.cells code12 39)
  have f2 : Fr [] (w.alloc (.cells code12 39)) ((w.alloc (.cells code12 39)).alloc (.cells #[.string ⟨#[]⟩, .int .i64 0, .int .i64 1, .slice (some ⟨w.heap.size, 0, none⟩) 2 2] 34)) := (Fr.refl _ _).alloc _
  have b2 := blk2 w (.cells code12 39) (.cells #[.string ⟨#[]⟩, .int .i64 0, .int .i64 1, .slice (some ⟨w.heap.size, 0, none⟩) 2 2] 34)
  have B1 := (f2.block _ (Array.getElem?_eq_some_iff.1 b1).1 (by simp)).trans b1
  have F2 := f1.trans f2
  have T2 := T.fr F2 (by simp)
  have hsz : ((w.alloc (.cells code12 39)).alloc (.cells #[.string ⟨#[]⟩, .int .i64 0, .int .i64 1, .slice (some ⟨w.heap.size, 0, none⟩) 2 2] 34)).heap.size = w.heap.size + 2 := by simp
  have h4 : 4 ≤ w.heap.size := T.len
  have hN1 : w.heap.size + 1 ≠ w.heap.size := by omega
  unfold code12 at b1 b2 B1 f1 f2 F2 T2 hsz
  go_enter Tryd.func8, Tryd.ntmps8
  go_upto_region 2 with fail
  clear f1 f2 b1
  generalize (w.alloc (.cells #[.int .i64 1, .int .i64 0, .int .i64 0, .int .i64 0, .int .i64 5, .slice none 0 0, .int .i64 24, .int .i64 0, .int .i64 0, .int .i64 0, .int .i64 0, .slice none 0 0] 39)).alloc (.cells #[.string ⟨#[]⟩, .int .i64 0, .int .i64 1, .slice (some ⟨w.heap.size, 0, none⟩) 2 2] 34) = W2 at *
  have HS2 : Hid (W2.heap.size = w.heap.size + 2) := hsz
  clear hsz
  have p0 : W2.cell? ⟨w.heap.size + 1, 0, none⟩ = some (.string ⟨#[]⟩) := at_cells b2 0 rfl
  have p1 : W2.cell? ⟨w.heap.size + 1, 1, none⟩ = some (.int .i64 0) := at_cells b2 1 rfl
  have p2 : W2.cell? ⟨w.heap.size + 1, 2, none⟩ = some (.int .i64 1) := at_cells b2 2 rfl
  have p3 : W2.cell? ⟨w.heap.size + 1, 3, none⟩ = some (.slice (some ⟨w.heap.size, 0, none⟩) 2 2) := at_cells b2 3 rfl
  have f3 : Fr [] W2 (W2.alloc (.cells #[.string ⟨#[]⟩, .int .i64 0, .int .i64 1, .slice (some ⟨w.heap.size, 0, none⟩) 2 2] 34)) := (Fr.refl _ _).alloc _
  have b3 : (W2.alloc (.cells #[.string ⟨#[]⟩, .int .i64 0, .int .i64 1, .slice (some ⟨w.heap.size, 0, none⟩) 2 2] 34)).heap[W2.heap.size]? = some (.cells #[.string ⟨#[]⟩, .int .i64 0, .int .i64 1, .slice (some ⟨w.heap.size, 0, none⟩) 2 2] 34 (0, 0)) := heap_alloc_new W2 _
  have C1 := check_any 1 0 (ex_cd 1 ((f3.block _ (Array.getElem?_eq_some_iff.1 B1).1 (by simp)).trans B1) b3 (by have := T2.len; simp; omega)) (T2.fr f3 (by simp)) (Nat.le_refl _)
  rw [ex_1] at C1
  unfold cEnd at C1
  simp only at C1
  have HF3 : Hid (Fr [] W2 (W2.alloc (.cells #[.string ⟨#[]⟩, .int .i64 0, .int .i64 1, .slice (some ⟨w.heap.size, 0, none⟩) 2 2] 34))) := f3
  clear f3 b3
  go_wp2_with fail
  with_reducible (refine C1.mono ?_)
  rintro e W4 ⟨rfl, f4⟩
  have F4 := HF3.out.trans f4
  have B4 := (F4.block _ (Array.getElem?_eq_some_iff.1 B1).1 (by simp)).trans B1
  have b4 := (F4.block _ (Array.getElem?_eq_some_iff.1 b2).1 (by simp)).trans b2
  have T4 := T2.fr F4 (by simp)
  have G4 : Fr [] w W4 := F2.trans F4
  have z4 : W4.frozen? ⟨w.heap.size + 1, 2, none⟩ = false := by simp [World.frozen?, b4]
  have q2 : W4.cell? ⟨w.heap.size + 1, 2, none⟩ = some (.int .i64 1) := at_cells b4 2 rfl
  clear C1 p0 p1 p2 p3 f4 F4 B1 b2 T2 HF3 HS2 F2
  go_upto_region 4 with fail
  have b5 : (W4.setCell ⟨w.heap.size + 1, 2, none⟩ (.int .i64 0)).heap[w.heap.size + 1]? = some (.cells #[.string ⟨#[]⟩, .int .i64 0, .int .i64 0, .slice (some ⟨w.heap.size, 0, none⟩) 2 2] 34 (0, 0)) := set_cells 2 (.int .i64 0) b4
  have B5 : (W4.setCell ⟨w.heap.size + 1, 2, none⟩ (.int .i64 0)).heap[w.heap.size]? = _ := set_oth (by omega) B4
  have f5 : Fr [w.heap.size + 1] W4 (W4.setCell ⟨w.heap.size + 1, 2, none⟩ (.int .i64 0)) := (Fr.refl _ _).setCell (.inl (by simp)) _
  have T5 := T4.fr f5 (by simp; omega)
  have G5 : Fr [] w (W4.setCell ⟨w.heap.size + 1, 2, none⟩ (.int .i64 0)) := ((G4.sub (T := [w.heap.size + 1]) (by simp)).trans f5).sub (fun k hk => .inr (by simp at hk; omega))
  clear B4 b4 T4 G4 f5 z4 q2
  generalize W4.setCell ⟨w.heap.size + 1, 2, none⟩ (.int .i64 0) = W5 at *
  have p0 : W5.cell? ⟨w.heap.size + 1, 0, none⟩ = some (.string ⟨#[]⟩) := at_cells b5 0 rfl
  have p1 : W5.cell? ⟨w.heap.size + 1, 1, none⟩ = some (.int .i64 0) := at_cells b5 1 rfl
  have p2 : W5.cell? ⟨w.heap.size + 1, 2, none⟩ = some (.int .i64 0) := at_cells b5 2 rfl
  have p3 : W5.cell? ⟨w.heap.size + 1, 3, none⟩ = some (.slice (some ⟨w.heap.size, 0, none⟩) 2 2) := at_cells b5 3 rfl
  have f6 : Fr [] W5 (W5.alloc (.cells #[.string ⟨#[]⟩, .int .i64 0, .int .i64 0, .slice (some ⟨w.heap.size, 0, none⟩) 2 2] 34)) := (Fr.refl _ _).alloc _
  have b6 : (W5.alloc (.cells #[.string ⟨#[]⟩, .int .i64 0, .int .i64 0, .slice (some ⟨w.heap.size, 0, none⟩) 2 2] 34)).heap[W5.heap.size]? = some (.cells #[.string ⟨#[]⟩, .int .i64 0, .int .i64 0, .slice (some ⟨w.heap.size, 0, none⟩) 2 2] 34 (0, 0)) := heap_alloc_new W5 _
  have C2 := check_any 1 0 (ex_cd 0 ((f6.block _ (Array.getElem?_eq_some_iff.1 B5).1 (by simp)).trans B5) b6 (by have := T5.len; simp; omega)) (T5.fr f6 (by simp)) (Nat.le_refl _)
  rw [ex_0] at C2
  unfold cEnd at C2
  simp only at C2
  have HF6 : Hid (Fr [] W5 (W5.alloc (.cells #[.string ⟨#[]⟩, .int .i64 0, .int .i64 0, .slice (some ⟨w.heap.size, 0, none⟩) 2 2] 34))) := f6
  clear f6 b6
  go_wp2_with fail
  with_reducible (refine C2.mono ?_)
  rintro e W7 ⟨rfl, f7⟩
  have F7 := HF6.out.trans f7
  have B7 := (F7.block _ (Array.getElem?_eq_some_iff.1 B5).1 (by simp)).trans B5
  have b7 := (F7.block _ (Array.getElem?_eq_some_iff.1 b5).1 (by simp)).trans b5
  have T7 := T5.fr F7 (by simp)
  have G7 : Fr [] w W7 := G5.trans F7
  clear C2 p0 p1 p2 p3 f7 F7 B5 b5 T5 HF6 G5
  go_upto_region 5 with fail
  have hwN : w.heap.size < W7.heap.size := (Array.getElem?_eq_some_iff.1 B7).1
  have a0 : W7.cell? ⟨w.heap.size, 0, none⟩ = some (.int .i64 1) := at_cells B7 0 rfl
  have a1 : W7.cell? ⟨w.heap.size, 1, none⟩ = some (.int .i64 0) := at_cells B7 1 rfl
  have a2 : W7.cell? ⟨w.heap.size, 2, none⟩ = some (.int .i64 0) := at_cells B7 2 rfl
  have a3 : W7.cell? ⟨w.heap.size, 3, none⟩ = some (.int .i64 0) := at_cells B7 3 rfl
  have a4 : W7.cell? ⟨w.heap.size, 4, none⟩ = some (.int .i64 5) := at_cells B7 4 rfl
  have a5 : W7.cell? ⟨w.heap.size, 5, none⟩ = some (.slice none 0 0) := at_cells B7 5 rfl
  have q3 : W7.cell? ⟨w.heap.size + 1, 3, none⟩ = some (.slice (some ⟨w.heap.size, 0, none⟩) 2 2) := at_cells b7 3 rfl
  have CW := writes_any W7.heap.size x0 W7 InOk.nil (Nat.le_refl _) (by simp [x0]) T7
  rw [show wrL (regsL x0 (wT x0.op)) = 0 from rfl] at CW
  unfold In.arr x0 at CW
  simp only [List.length_nil] at CW
  go_wp2_with fail
  with_reducible (refine CW.mono ?_)
  rintro e W8 ⟨rfl, f8⟩
  have B8 := (f8.block _ (Array.getElem?_eq_some_iff.1 B7).1 (by simp)).trans B7
  have b8 := (f8.block _ (Array.getElem?_eq_some_iff.1 b7).1 (by simp)).trans b7
  have T8 := T7.fr f8 (by simp)
  have G8 : Fr [] w W8 := G7.trans f8
  clear CW a0 a1 a2 a3 a4 a5 q3 f8 B7 b7 T7 G7 hwN
  have a0 : W8.cell? ⟨w.heap.size, 6, none⟩ = some (.int .i64 24) := at_cells B8 6 rfl
  have a1 : W8.cell? ⟨w.heap.size, 7, none⟩ = some (.int .i64 0) := at_cells B8 7 rfl
  have a2 : W8.cell? ⟨w.heap.size, 8, none⟩ = some (.int .i64 0) := at_cells B8 8 rfl
  have a3 : W8.cell? ⟨w.heap.size, 9, none⟩ = some (.int .i64 0) := at_cells B8 9 rfl
  have a4 : W8.cell? ⟨w.heap.size, 10, none⟩ = some (.int .i64 0) := at_cells B8 10 rfl
  have a5 : W8.cell? ⟨w.heap.size, 11, none⟩ = some (.slice none 0 0) := at_cells B8 11 rfl
  have q3 : W8.cell? ⟨w.heap.size + 1, 3, none⟩ = some (.slice (some ⟨w.heap.size, 0, none⟩) 2 2) := at_cells b8 3 rfl
  have CR := reads_any W8.heap.size x1 W8 InOk.nil (Nat.le_refl _) (by simp [x1]) T8
  rw [show regsL x1 (rT x1.op) = [0] from rfl] at CR
  unfold In.arr x1 at CR
  simp only [List.length_nil] at CR
  go_wp2_with fail
  with_reducible (refine CR.mono ?_)
  rintro e W9 ⟨v9, rfl, ho9, f9⟩
  obtain ⟨va, vc, rfl, _, _⟩ := ho9.slice
  have B9 := (f9.block _ (Array.getElem?_eq_some_iff.1 B8).1 (by simp)).trans B8
  have b9 := (f9.block _ (Array.getElem?_eq_some_iff.1 b8).1 (by simp)).trans b8
  have T9 := T8.fr f9 (by simp)
  have G9 : Fr [] w W9 := G8.trans f9
  have hwN : w.heap.size < W9.heap.size := (Array.getElem?_eq_some_iff.1 B9).1
  have CN := next_any W9.heap.size (fEx w.heap.size 0) 0 W9 (ex_fu 0 B9 hwN) (Nat.le_refl _)
  rw [show nextL (fEx w.heap.size 0).code 0 = [1] from rfl] at CN
  unfold Fu.arr fEx at CN
  simp only [List.length_cons, List.length_nil, Nat.zero_add, Nat.reduceAdd] at CN
  have p0 : W9.cell? ⟨w.heap.size + 1, 0, none⟩ = some (.string ⟨#[]⟩) := at_cells b9 0 rfl
  have p1 : W9.cell? ⟨w.heap.size + 1, 1, none⟩ = some (.int .i64 0) := at_cells b9 1 rfl
  have p2 : W9.cell? ⟨w.heap.size + 1, 2, none⟩ = some (.int .i64 0) := at_cells b9 2 rfl
  have p3 : W9.cell? ⟨w.heap.size + 1, 3, none⟩ = some (.slice (some ⟨w.heap.size, 0, none⟩) 2 2) := at_cells b9 3 rfl
  clear CR a0 a1 a2 a3 a4 a5 q3 f9 B8 b8 T8 G8 ho9
  simp only [List.length_cons, List.length_nil, Nat.zero_add]
  go_wp2_with fail
  with_reducible (refine CN.mono ?_)
  rintro e WA ⟨vA, rfl, hoA, fA⟩
  obtain ⟨wa, wc, rfl, _, _⟩ := hoA.slice
  have GA : Fr [] w WA := G9.trans fA
  clear CN hoA
  simp only [List.length_cons, List.length_nil, Nat.zero_add]
  go_wp2
  go_ret
  exact ⟨rfl, GA⟩
end Go.Proofs.YtdaealionicmjaaDoor
