/-
  The chapter's example, gone through; condition: none.
-/
import Derived.Test.YtnhjplfdfbbihaaCbQ
namespace Go.Proofs.Ytnhjplfdfbbihaa
open Go.RowKit Go.Shelf Go.Maps Go.ChangeShapes
set_option linter.unusedVariables false
set_option linter.unusedSimpArgs false
def exS : Bk := putB (putB (putB ⟨limP 2, [1], [], [], 0, 0⟩ (ofT 1).abs) (ofT 2).abs) (ofT 3).abs
theorem exS_top : exS.top = 2 := by decide +kernel
theorem exS_len : exS.rows.length = 2 := by decide +kernel
theorem exS_get : (getB exS (ofT 2).k).isSome = false := by decide +kernel
theorem exS_r : putR ⟨limP 2, [1], [], [], 0, 0⟩ = 1 ∧ putR (putB ⟨limP 2, [1], [], [], 0, 0⟩ (ofT 1).abs) = 2 ∧ putR (putB (putB ⟨limP 2, [1], [], [], 0, 0⟩ (ofT 1).abs) (ofT 2).abs) = 3 := by decide +kernel
theorem w64c (n : Int) (h1 : 0 ≤ n) (h2 : n ≤ 1000) : W64 n := w64_small h1 (by omega)
set_option maxRecDepth 100000 in
theorem fld35 (t : Tr) (W : World) : (Instr.field 35 (.agg t.arr) 0).run Try.prog W = .ok (.agg (kc t.k)) W := by
  obtain ⟨⟨a, b, c, d, e, f, g, h, x, j⟩, fn, pc, ia, ic, ins, oa, oc, ops, la, lc, links, va, vc, virts, ba, bc, back⟩ := t
  kernel_rfl
theorem ofT_k (n : Int) : (ofT n).k = (n, 0, 0, 0, 0, 0, 0, 0, 0, 0) := rfl
theorem kw_of {n : Int} (h : W64 n) : kw (ofT n).k := (ofT_at h).kw
set_option maxRecDepth 100000 in
set_option maxHeartbeats 4000000 in
theorem awake_any (w : World) : Calls Try.prog 7 #[] w fun e w' => e = .returned (.bool true) ∧ Fr [] w w' := by
  have F1 : Fr [] w (w.alloc (.cells #[.int .i64 1] 3)) := (Fr.refl _ _).alloc _
  have hx := heap_alloc_new w (.cells #[.int .i64 1] 3)
  have hs : SL (w.alloc (.cells #[.int .i64 1] 3)) (w.alloc (.cells #[.int .i64 1] 3)).heap.size 3 (some ⟨w.heap.size, 0, none⟩) ([1] : List Int).length 1 1 8 (([1] : List Int).map (Value.int .i64)) := by
    refine ⟨rfl, rfl, fun e => (by cases e), Nat.le_refl _, by decide, fun j u hu => ?_⟩
    cases j with
    | zero =>
      simp at hu
      subst hu
      exact ⟨_, _, rfl, at_cells hx 0 rfl, .inl (by simp)⟩
    | succ j => simp at hu
  have CN := AwS.new 2 hs (by simp; exact w64c 1 (by decide) (by decide))
  have HF : Hid (Fr [] w (w.alloc (.cells #[.int .i64 1] 3))) := F1
  clear F1 hx hs
  change Calls Try.prog 9 #[.int .i64 2, .slice (some ⟨w.heap.size, 0, none⟩) 1 1] _ _ at CN
  go_enter Try.func7, Try.ntmps7
  go_upto_region 5 with (first
    | (go_at_call 9; refine CN.mono ?_; rintro e w1 ⟨c, rfl, h1⟩; have H0 : Hid (AwS (w.alloc (.cells #[.int .i64 1] 3)) (w.alloc (.cells #[.int .i64 1] 3)).heap.size c w1 0 ⟨limP 2, [1], [], [], 0, 0⟩) := h1; clear h1 CN)
    | (go_at_call 21; refine (of_any 1 _).mono ?_; rintro e w2 ⟨rfl, f2⟩; have H1 := hid (H0.out.fr0 f2); clear f2 H0)
    | (go_at_call 14; refine (H1.out.put (by decide) (ofT_ok 1 _ _) (ofT_at (w64c 1 (by decide) (by decide)))).mono ?_; rintro e w3 ⟨rfl, h1, _⟩; have H2 := hid h1; clear h1 H1)
    | (go_at_call 21; refine (of_any 2 _).mono ?_; rintro e w2 ⟨rfl, f2⟩; have H3 := hid (H2.out.fr0 f2); clear f2 H2)
    | (go_at_call 14; refine (H3.out.put (by decide) (ofT_ok 2 _ _) (ofT_at (w64c 2 (by decide) (by decide)))).mono ?_; rintro e w3 ⟨rfl, h1, _⟩; have H4 := hid h1; clear h1 H3)
    | (go_at_call 21; refine (of_any 3 _).mono ?_; rintro e w2 ⟨rfl, f2⟩; have H5 := hid (H4.out.fr0 f2); clear f2 H4)
    | (go_at_call 14; refine (H5.out.put (by decide) (ofT_ok 3 _ _) (ofT_at (w64c 3 (by decide) (by decide)))).mono ?_; rintro e w3 ⟨rfl, h1, _⟩; have H6 := hid h1; clear h1 H5))
  have H7 : Hid (AwS (w.alloc (.cells #[.int .i64 1] 3)) (w.alloc (.cells #[.int .i64 1] 3)).heap.size c w3 3 exS) := H6.out
  clear H6
  have fl := fld35 (ofT 2)
  go_upto_region 6 with (first
    | (go_at_call 21; refine (of_any 2 _).mono ?_; rintro e w4 ⟨rfl, f4⟩; have H8 := hid (H7.out.fr0 f4); clear f4 H7; have CG := H8.out.get (kw_of (w64c 2 (by decide) (by decide))); rw [exS_get] at CG; generalize ((getB exS (ofT 2).k).map (·.1)).getD 0 = gi at CG)
    | (go_at_call 15; refine CG.mono ?_; rintro e w5 ⟨t', rfl, _, _, f5⟩; have HA : Hid ((w5.alloc (.cells #[.int .i64 0, .int .i64 0, .int .i64 0, .int .i64 0, .int .i64 0, .int .i64 0, .int .i64 0, .int .i64 0, .int .i64 0, .int .i64 0, .int .i64 0, .int .i64 0, .slice none 0 0, .slice none 0 0, .slice none 0 0, .slice none 0 0, .slice none 0 0] 35)).heap[w5.heap.size]? = some (.cells #[.int .i64 0, .int .i64 0, .int .i64 0, .int .i64 0, .int .i64 0, .int .i64 0, .int .i64 0, .int .i64 0, .int .i64 0, .int .i64 0, .int .i64 0, .int .i64 0, .slice none 0 0, .slice none 0 0, .slice none 0 0, .slice none 0 0, .slice none 0 0] 35 (0, 0))) := heap_alloc_new w5 _; have H9 := hid (H8.out.fr0 (f5.trans (((Fr.refl [] w5).alloc (.cells #[.int .i64 0, .int .i64 0, .int .i64 0, .int .i64 0, .int .i64 0, .int .i64 0, .int .i64 0, .int .i64 0, .int .i64 0, .int .i64 0, .int .i64 0, .int .i64 0, .slice none 0 0, .slice none 0 0, .slice none 0 0, .slice none 0 0, .slice none 0 0] 35)).setRow (g := w5.heap.size) (.inr (Nat.le_refl _)) t'.arr))); clear f5 H8 CG)
    | refine wpList_store_row rfl 35 (.tmp 5) (.tmp 26) rfl w5.heap.size t'.arr rfl rfl 35 _ HA.out (by rw [t'.arr_size]; exact info35) (by rw [t'.arr_size]; rfl) t'.arr_one ?_)
  clear HA fl
  generalize (w5.alloc (.cells #[.int .i64 0, .int .i64 0, .int .i64 0, .int .i64 0, .int .i64 0, .int .i64 0, .int .i64 0, .int .i64 0, .int .i64 0, .int .i64 0, .int .i64 0, .int .i64 0, .slice none 0 0, .slice none 0 0, .slice none 0 0, .slice none 0 0, .slice none 0 0] 35)).setRow w5.heap.size t'.arr = V at *
  have CM := H9.out.most
  rw [exS_top] at CM
  rw [exS_r.1, exS_r.2.1, exS_r.2.2]
  change Calls Try.prog 12 _ V (fun e w' => e = .returned (.int .i64 2) ∧ Fr [] V w') at CM
  go_wp2_with (first
    | (go_at_call 12; refine CM.mono ?_; rintro e w6 ⟨rfl, f6⟩; have H10 := hid (H9.out.fr0 f6); clear f6 H9 CM; have CK := H10.out.keys; rw [exS_len] at CK)
    | (go_at_call 13; refine CK.mono ?_; rintro e w7 ⟨ka, kcap, rfl, _, f7⟩; have H11 := hid (H10.out.fr0 f7); clear f7 H10 CK))
  go_ret
  exact ⟨rfl, HF.out.trans H11.out.fr⟩
end Go.Proofs.Ytnhjplfdfbbihaa
