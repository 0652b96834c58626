/-
  Room is made for a key, and what it begins with; conditions: the book lies as told.
-/
import Derived.Test.YtjeddgjndpdhoaaPrL
import Derived.Deep.Cut
namespace Go.Proofs.Ytjeddgjndpdhoaa
open Go.RowKit Go.Shelf Go.Maps Go.ChangeShapes
set_option linter.unusedVariables false
set_option linter.unusedSimpArgs false

def entB (S : Bk) : Bk := { S with L := if 1000 ≤ S.L.length then S.L.eraseIdx (lsI S.L S.L.length) else S.L, ent := S.ent + 1 }
theorem set_at3 {W : World} {k : Nat} {u0 u1 u2 u3 v : Value} {t : TypeId} {z : Nat × Nat} (h : W.heap[k]? = some (.cells #[u0, u1, u2, u3] t z)) : (W.setCell ⟨k, 3, none⟩ v).heap[k]? = some (.cells #[u0, u1, u2, v] t z) := by simp [World.setCell, Array.getElem?_modify, h]
theorem frozen4 {W : World} {k : Nat} {c : Array Value} {t : TypeId} (h : W.heap[k]? = some (.cells c t (0, 0))) (i : Nat) : W.frozen? ⟨k, i, none⟩ = false := by simp [World.frozen?, h]
set_option maxRecDepth 100000 in
set_option maxHeartbeats 1000000 in
theorem enter_any {w : World} {b mb bb : Nat} {S : Bk} (h : BA w b mb bb S) (hok : Ok S) (he : S.ent ≤ 1000000000) : Calls Try.prog 26 #[.pointer (some ⟨b, 0, none⟩)] w fun e w' => e = .returned (tv 0 (S.ent + 1)) ∧ Fr [b, mb] w w' ∧ BA w' b mb bb (entB S) := by
  have hbs : b < w.heap.size := (Array.getElem?_eq_some_iff.1 h.blk).1
  have hmbs := h.cm.lt
  have hbbs := h.bm.lt
  obtain ⟨W, hW⟩ : ∃ W, W = w.alloc (.cells #[.int .i64 0, .int .i64 0] 60) := ⟨_, rfl⟩
  have F : Fr [] w W := by rw [hW]; exact (Fr.refl [] w).alloc _
  have hb : BA W b mb bb S := by rw [hW]; exact h.box _
  have r0 : W.heap[w.heap.size]? = some (.cells #[.int .i64 0, .int .i64 0] 60 (0, 0)) := by rw [hW]; exact heap_alloc_new _ _
  -- what the end makes of a world behind the deletion
  have HTAIL : ∀ X : World, Fr [mb] W X → CM X mb (entB S).L → Hid (Fr [b, mb] w ((X.setCell ⟨b, 3, none⟩ (.int .i64 (S.ent + 1))).setRow w.heap.size #[.int .i64 0, .int .i64 (S.ent + 1)]) ∧ BA ((X.setCell ⟨b, 3, none⟩ (.int .i64 (S.ent + 1))).setRow w.heap.size #[.int .i64 0, .int .i64 (S.ent + 1)]) b mb bb (entB S)) := by
    intro X fX cX
    have hbm : b ≠ mb := hb.cm.noCells hb.blk
    have hbb : b ≠ bb := hb.bm.noCells hb.blk
    have bX : X.heap[b]? = _ := (fX.block b (Array.getElem?_eq_some_iff.1 hb.blk).1 (by simpa using hbm)).trans hb.blk
    have fX' : Fr [b, mb] w X := (F.sub (by simp)).trans (fX.sub (by simp))
    have f1 : Fr [b, mb] w (X.setCell ⟨b, 3, none⟩ (.int .i64 (S.ent + 1))) := fX'.setCell (.inl (by simp)) _
    have f2 := f1.setRow (k := w.heap.size) (.inr (Nat.le_refl _)) #[.int .i64 0, .int .i64 (S.ent + 1)]
    have g1 : Fr [b, w.heap.size] X (X.setCell ⟨b, 3, none⟩ (.int .i64 (S.ent + 1))) := (Fr.refl _ _).setCell (.inl (by simp)) _
    have g2 := g1.setRow (k := w.heap.size) (.inl (by simp)) #[.int .i64 0, .int .i64 (S.ent + 1)]
    refine ⟨f2, ?_, cX.fr g2 (by simp; omega), (hb.bm.fr fX (by simpa using hb.ne.symm)).fr g2 (by simp; omega), hb.ne, hb.thr⟩
    rw [row_oth (by omega)]
    exact set_at3 bX
  have cells : ∀ X : World, Fr [mb] W X → X.cell? ⟨b, 3, none⟩ = some (.int .i64 S.ent) ∧ X.frozen? ⟨b, 3, none⟩ = false ∧ (X.setCell ⟨b, 3, none⟩ (.int .i64 (S.ent + 1))).cell? ⟨b, 3, none⟩ = some (.int .i64 (S.ent + 1)) ∧ (X.setCell ⟨b, 3, none⟩ (.int .i64 (S.ent + 1))).heap[w.heap.size]? = some (.cells #[.int .i64 0, .int .i64 0] 60 (0, 0)) := by
    intro X fX
    have hbm : b ≠ mb := hb.cm.noCells hb.blk
    have bX : X.heap[b]? = _ := (fX.block b (Array.getElem?_eq_some_iff.1 hb.blk).1 (by simpa using hbm)).trans hb.blk
    exact ⟨at_cells bX 3 rfl, frozen4 bX 3, at_cells (set_at3 bX) 3 rfl, (Below.heap_setCell _ _ _ _ (by show w.heap.size ≠ b; omega)).trans ((fX.block _ (Array.getElem?_eq_some_iff.1 r0).1 (by simp; omega)).trans r0)⟩
  have cc : W.cell? ⟨b, 1, none⟩ = some (.map (some mb)) := at_cells hb.blk 1 rfl
  have hl := hb.cm.len
  have c1 : ∀ w', Fr [mb] W w' → w'.cell? ⟨b, 1, none⟩ = some (.map (some mb)) := fun w' f => f.cell1 cc (by simpa using hb.cm.noCells hb.blk)
  have hcm : ∀ w', Fr [] W w' → CM w' mb S.L := fun w' f => hb.cm.fr f (by simp)
  have hH : Hid (W = _) := hW
  have HOK : Hid (Ok S) := hok
  have HE : Hid (S.ent ≤ 1000000000) := he
  have he0 : 0 ≤ S.ent := hok.ent
  clear hW F r0 hb h hok
  by_cases hlen : 1000 ≤ S.L.length
  · have hne : S.L ≠ [] := by intro e; rw [e] at hlen; simp at hlen
    have hdec : decide ((S.L.length : Int) < 1000) = false := by simp; omega
    obtain ⟨r, hr, hrk, hri⟩ := lsK_mem hne
    have HDL : Hid (delL S.L (lsK S.L) = (entB S).L) := by unfold Hid entB; rw [if_pos hlen, ← hrk]; exact del_erase HOK.out.nd hri
    have hk1 : kw (lsK S.L) := by rw [← hrk]; exact HOK.out.kw r hr
    have C27 : ∀ w', Fr [] W w' → Calls Try.prog 27 #[.map (some mb), .func (.func 28) #[] #[]] w' fun e w'' => e = .returned (.agg (kc (lsK S.L))) ∧ Fr [] w' w'' := fun w' f => least_key (hcm w' f) HOK.out.nd HOK.out.kw HOK.out.ord hne
    go_enter Try.func26, Try.ntmps26
    go_upto_region 1 with (fail)
    rw [← hH.out]
    go_wp2_with fail
    refine reg26 c1 hcm HOK.out.nd hk1 C27 ?_
    intro X fX cX
    rw [HDL.out] at cX
    have HT := HTAIL X fX cX
    obtain ⟨q0, q1, q2, q3⟩ := cells X fX
    clear HTAIL cells c1 hcm C27 cX fX
    go_wp2_with (refine wpList_store_row rfl 60 (.tmp 2) (.tmp 29) rfl w.heap.size #[.int .i64 0, .int .i64 (S.ent + 1)] rfl rfl 60 _ q3 (by rw [info60]; rfl) rfl (by simp [Value.oneCell']) ?_)
    exact bodyPost_ret (results_cell_row rfl _ _ w.heap.size 60 #[.int .i64 0, .int .i64 (S.ent + 1)] (0, 0) _ rfl (row_new q3) Try.underlying60 rfl (by rw [info60]; rfl)) rfl ⟨rfl, HT.out⟩
  · have hdec : decide ((S.L.length : Int) < 1000) = true := by simp; omega
    have hL : (entB S).L = S.L := by unfold entB; rw [if_neg hlen]
    have HT := HTAIL W (Fr.refl _ _) (by rw [hL]; exact hcm W (Fr.refl _ _))
    obtain ⟨q0, q1, q2, q3⟩ := cells W (Fr.refl _ _)
    clear HTAIL cells c1 hcm hL
    go_enter Try.func26, Try.ntmps26
    go_upto_region 1 with (fail)
    rw [← hH.out]
    go_wp2_with (refine wpList_store_row rfl 60 (.tmp 2) (.tmp 29) rfl w.heap.size #[.int .i64 0, .int .i64 (S.ent + 1)] rfl rfl 60 _ q3 (by rw [info60]; rfl) rfl (by simp [Value.oneCell']) ?_)
    exact bodyPost_ret (results_cell_row rfl _ _ w.heap.size 60 #[.int .i64 0, .int .i64 (S.ent + 1)] (0, 0) _ rfl (row_new q3) Try.underlying60 rfl (by rw [info60]; rfl)) rfl ⟨rfl, HT.out⟩
end Go.Proofs.Ytjeddgjndpdhoaa
