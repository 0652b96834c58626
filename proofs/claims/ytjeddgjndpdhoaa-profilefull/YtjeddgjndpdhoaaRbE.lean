/-
  The document's Ban; conditions: the book lies as told, keys are numbers of 64 bits.
-/
import Derived.Test.YtjeddgjndpdhoaaRbD
namespace Go.Proofs.Ytjeddgjndpdhoaa
open Go.RowKit Go.Shelf Go.Maps Go.ChangeShapes
set_option linter.unusedVariables false
set_option linter.unusedSimpArgs false

def p28 (t : TypeId) : Bool := t == 28
def p64 (t : TypeId) : Bool := t == 64
theorem kcl_flat (O : List Ky) (k : Ky) : (O ++ [k]).flatMap kcl = O.flatMap kcl ++ (kc k).toList := by simp [List.flatMap_append, kcl]
set_option maxRecDepth 100000 in
set_option maxHeartbeats 2000000 in
theorem rban_any {B : Nat} {w : World} {rb : Nat} {S : Bk} (h : RBk B w rb S) (hB : B ≤ w.heap.size) (hok : Ok S) (hO : S.O.length ≤ 100000) (hw : ∀ x ∈ S.O, kw x) {k : Ky} (hk : kw k) : Calls Try.prog 15 #[.pointer (some ⟨rb, 0, none⟩), .agg (kc k)] w fun e w' => e = .returned (.tuple #[]) ∧ Gr B p28 [rb] w w' ∧ RBk B w' rb (banB S k) := by
  have A0 : Fr [] w (w.alloc (.cells (kc k) 28)) := (Fr.refl [] w).alloc _
  have KB0 := heap_alloc_new w (.cells (kc k) 28)
  have R0 := h.fr0 A0
  have CF := find_any R0 hok.kw (by have := hok.len; omega) hk
  have HRL : Hid (rb < w.heap.size) := by obtain ⟨sv, so, hb, _⟩ := h.ex; exact (Array.getElem?_eq_some_iff.1 hb).1
  have HB : Hid (B ≤ w.heap.size) := hB
  have HK : Hid (kw k) := hk
  have HW : Hid (∀ x ∈ S.O, kw x) := hw
  have HO : Hid (S.O.length ≤ 100000) := hO
  have HOK : Hid (Ok S) := hok
  have KBN : Hid (∀ so, w.cell? ⟨rb, 1, none⟩ = some so → ∀ q, so.ownBlock = some q → q ≠ w.heap.size) := by
    obtain ⟨sv, so, hb, _, ho⟩ := h.ex
    intro so' e q hq
    rw [at_cells hb 1 rfl] at e
    cases e
    obtain ⟨_, cur, hc⟩ := own_type ho hq
    have := (Array.getElem?_eq_some_iff.1 hc).1
    omega
  have HC1 : Hid (∀ W, Fr [] w W → W.cell? ⟨rb, 1, none⟩ = w.cell? ⟨rb, 1, none⟩) := by
    obtain ⟨sv, so, hb, _, ho⟩ := h.ex
    intro W f
    rw [f.cell1 (at_cells hb 1 rfl) (by simp), at_cells hb 1 rfl]
  clear h hB hok hO hw hk
  cases hh : hasL S.L k with
  | false =>
    rw [fnd_hasnt hh] at CF
    have HS1 : Hid (banB S k = { S with O := addO S.O k }) := by unfold Hid banB; rw [del_of_not hh]
    clear hh
    go_enter Try.func15, Try.ntmps15
    go_wp2_with (refine wpList_load28 rfl (.tmp 3) rfl w.heap.size 0 rfl k (range_box KB0) ?_)
    refine CF.mono ?_
    rintro e W ⟨rfl, f⟩
    have FW : Hid (Fr [rb] w W) := (A0.trans f).sub (by simp)
    have RW : Hid (RBk B W rb S) := R0.fr0 f
    have KW : Hid (W.heap[w.heap.size]? = some (.cells (kc k) 28 (0, 0))) := (f.block _ (Array.getElem?_eq_some_iff.1 KB0).1 (by simp)).trans KB0
    have C1W : Hid (W.cell? ⟨rb, 1, none⟩ = w.cell? ⟨rb, 1, none⟩) := HC1.out W (A0.trans f)
    clear f CF KB0 R0 A0
    obtain ⟨S1, hS1⟩ : ∃ S1, S1 = S := ⟨_, rfl⟩
    rw [← hS1] at RW
    have HS1 : Hid (banB S k = { S1 with O := addO S.O k }) := by rw [hS1]; exact HS1.out
    have HSO : Hid (S1.O = S.O) := by rw [hS1]; exact (show S.O = S.O from rfl)
    clear hS1
    have CB := rbanned_any RW.out (by rw [HSO.out]; exact HW.out) (by rw [HSO.out]; have := HO.out; omega) HK.out
    rw [HSO.out] at CB
    by_cases hm : k ∈ S.O
    · have HD : Hid (decide (k ∈ S.O) = true) := decide_eq_true hm
      have HE : Hid (banB S k = S1) := by show banB S k = S1; rw [show banB S k = { S1 with O := addO S.O k } from HS1.out, addO, if_pos hm, ← HSO.out]
      rw [HD.out] at CB
      clear hm
      go_wp2_with (refine wpList_load28 rfl (.tmp 3) rfl w.heap.size 0 rfl k (range_box KW.out) ?_)
      refine CB.mono ?_
      rintro e X1 ⟨rfl, f1⟩
      have HF : Hid (Gr B p28 [rb] w X1 ∧ RBk B X1 rb (banB S k)) := by
        refine ⟨Gr.ofFr (FW.out.trans (f1.sub (by simp))) (by simp), ?_⟩
        rw [HE.out]
        exact RW.out.fr0 f1
      clear f1 CB
      go_wp2
      exact bodyPost_end (results_none rfl _ _ _) rfl ⟨rfl, HF.out⟩
    · have HD : Hid (decide (k ∈ S.O) = false) := decide_eq_false hm
      have HE : Hid (banB S k = { S1 with O := S.O ++ [k] }) := by show banB S k = { S1 with O := S.O ++ [k] }; rw [show banB S k = { S1 with O := addO S.O k } from HS1.out, addO, if_neg hm]
      rw [HD.out] at CB
      clear hm
      go_wp2_with (refine wpList_load28 rfl (.tmp 3) rfl w.heap.size 0 rfl k (range_box KW.out) ?_)
      refine CB.mono ?_
      rintro e X1 ⟨rfl, f1⟩
      have RX : Hid (RBk B X1 rb S1) := RW.out.fr0 f1
      have FX : Hid (Fr [rb] w X1) := FW.out.trans (f1.sub (by simp))
      have KX : Hid (X1.heap[w.heap.size]? = some (.cells (kc k) 28 (0, 0))) := (f1.block _ (Array.getElem?_eq_some_iff.1 KW.out).1 (by simp)).trans KW.out
      have F1C : Hid (X1.cell? ⟨rb, 1, none⟩ = w.cell? ⟨rb, 1, none⟩) := by
        obtain ⟨sv, so, hb, _⟩ := RW.out.ex
        show X1.cell? ⟨rb, 1, none⟩ = w.cell? ⟨rb, 1, none⟩
        rw [← C1W.out, f1.cell1 (at_cells hb 1 rfl) (by simp), at_cells hb 1 rfl]
      clear f1 CB
      go_wp2
      obtain ⟨sv, so, hb, hr, ho⟩ := RX.out.ex
      obtain ⟨fa, fc, rfl, _⟩ := own_slice ho
      obtain ⟨x0, x1, x2, x3, x4, x5, x6, x7, x8, x9, hkc⟩ := kc_ten k
      have hB1 : B ≤ X1.heap.size := Nat.le_trans HB.out FX.out.size
      have hkb : ∀ q, (Value.slice fa S1.O.length fc).ownBlock = some q → q ≠ w.heap.size := KBN.out _ (F1C.out ▸ at_cells hb 1 rfl)
      have hne := RBk.ne46 hb ho (by decide)
      have hrb : rb ∉ (Value.slice fa S1.O.length fc).ownBlock.toList := fun hq => by simp only [Option.mem_toList] at hq; exact hne _ hq rfl
      refine reg15 (B := B) (xs := S1.O.flatMap kcl) (fn := S1.O.length) (fa := fa) (fc := fc) (rb := rb) (kb := w.heap.size) (x0 := x0) (x1 := x1) (x2 := x2) (x3 := x3) (x4 := x4) (x5 := x5) (x6 := x6) (x7 := x7) (x8 := x8) (x9 := x9) ho hB1 ?_ ?_ ?_ ?_ (by rw [HSO.out]; have := HO.out; omega) ?_
      · intro w' f; exact f.cell1 (at_cells hb 1 rfl) (by simp)
      · intro w' f; exact f.cell1 (at_cells hb 1 rfl) hrb
      · intro w' f; exact frozen4 ((f.block _ (Array.getElem?_eq_some_iff.1 hb).1 hrb).trans hb) 1
      · intro w' f
        have hq := range_box ((f.block _ (Array.getElem?_eq_some_iff.1 KX.out).1 (fun hq => by
          rcases List.mem_cons.1 hq with hq | hq
          · have := HRL.out; omega
          · simp only [Option.mem_toList] at hq; exact hkb _ hq rfl)).trans KX.out)
        rw [hkc] at hq
        exact hq
      · intro n17 n18 n19 n20 n21 n22 n23 n24 n25 n26 X2 fa' fc' f2 o2 l2
        have HF : Hid (Gr B p28 [rb] w (X2.setCell ⟨rb, 1, none⟩ (.slice fa' (S1.O.length + 1) fc')) ∧ RBk B (X2.setCell ⟨rb, 1, none⟩ (.slice fa' (S1.O.length + 1) fc')) rb (banB S k)) := by
          have b2 := (f2.block _ (Array.getElem?_eq_some_iff.1 hb).1 hrb).trans hb
          have g3 : Fr [rb] X2 (X2.setCell ⟨rb, 1, none⟩ (.slice fa' (S1.O.length + 1) fc')) := (Fr.refl _ _).setCell (.inl (by simp)) _
          have r2 : X2.ownsRow B 64 11 sv S1.L.length (S1.L.flatMap rc) := own_fr hr f2 (fun q hq hm => by
            simp only [Option.mem_toList] at hm
            obtain ⟨_, c1, h1⟩ := own_type ho hm
            obtain ⟨_, c2, h2⟩ := own_type hr hq
            rw [h1] at h2
            cases h2)
          refine ⟨(Gr.ofFr FX.out (by simp)).trans ((Gr.ofFr f2 (fun q hq => ?_)).trans (Gr.ofFr g3 (by simp))), ?_⟩
          · simp only [Option.mem_toList] at hq
            obtain ⟨h1, c1, h2⟩ := own_type ho hq
            exact .inr (.inr ⟨h1, _, _, _, h2, rfl⟩)
          · rw [HE.out]
            refine ⟨_, _, set_at31 b2, ?_, ?_⟩
            · refine own_fr r2 g3 (fun q hq hm => ?_)
              simp at hm
              exact RBk.ne46 b2 r2 (by decide) q hq hm
            · show World.ownsRow _ B 28 10 _ (S.O ++ [k]).length ((S.O ++ [k]).flatMap kcl)
              rw [kcl_flat, hkc, List.length_append, ← HSO.out]
              refine own_fr o2 g3 (fun q hq hm => ?_)
              simp at hm
              exact RBk.ne46 b2 o2 (by decide) q hq hm
        clear f2 o2 l2
        go_wp2
        exact bodyPost_end (results_none rfl _ _ _) rfl ⟨rfl, HF.out⟩
  | true =>
    obtain ⟨i, r, hi, hrk, hf, hrow⟩ := fnd_has HOK.out.nd hh
    rw [hf] at CF
    have hi0 : 0 ≤ (i : Int) := by omega
    have HS1 : Hid (banB S k = { { S with L := S.L.eraseIdx i } with O := addO S.O k }) := by unfold Hid banB; rw [← hrk, del_erase HOK.out.nd hi]
    have HI : Hid (i < S.L.length) := (List.getElem?_eq_some_iff.1 hi).1
    clear hh hi hrk hf hrow
    go_enter Try.func15, Try.ntmps15
    go_wp2_with (refine wpList_load28 rfl (.tmp 3) rfl w.heap.size 0 rfl k (range_box KB0) ?_)
    refine CF.mono ?_
    rintro e V ⟨rfl, f⟩
    have FV : Hid (Fr [rb] w V) := (A0.trans f).sub (by simp)
    have KV : Hid (V.heap[w.heap.size]? = some (.cells (kc k) 28 (0, 0))) := (f.block _ (Array.getElem?_eq_some_iff.1 KB0).1 (by simp)).trans KB0
    have C1V : Hid (V.cell? ⟨rb, 1, none⟩ = w.cell? ⟨rb, 1, none⟩) := HC1.out V (A0.trans f)
    have CD := drop_any (R0.fr0 f) (Nat.le_trans HB.out FV.out.size) (by have := HOK.out.len; omega) HI.out
    clear f CF KB0 R0 A0
    go_wp2_with fail
    refine CD.mono ?_
    rintro e W ⟨rfl, f, r1, c1⟩
    have C1W : Hid (W.cell? ⟨rb, 1, none⟩ = w.cell? ⟨rb, 1, none⟩) := c1.trans C1V.out
    have FW : Hid (Fr [rb] w W) := FV.out.trans f
    have KW : Hid (W.heap[w.heap.size]? = some (.cells (kc k) 28 (0, 0))) := (f.block _ (Array.getElem?_eq_some_iff.1 KV.out).1 (by have := HRL.out; simp; omega)).trans KV.out
    obtain ⟨S1, hS1⟩ : ∃ S1 : Bk, S1 = { S with L := S.L.eraseIdx i } := ⟨_, rfl⟩
    rw [← hS1] at r1
    have RW : Hid (RBk B W rb S1) := r1
    have HS1 : Hid (banB S k = { S1 with O := addO S.O k }) := by rw [hS1]; exact HS1.out
    have HSO : Hid (S1.O = S.O) := by rw [hS1]; exact (show S.O = S.O from rfl)
    clear hS1 f r1 c1 CD FV KV
    have CB := rbanned_any RW.out (by rw [HSO.out]; exact HW.out) (by rw [HSO.out]; have := HO.out; omega) HK.out
    rw [HSO.out] at CB
    by_cases hm : k ∈ S.O
    · have HD : Hid (decide (k ∈ S.O) = true) := decide_eq_true hm
      have HE : Hid (banB S k = S1) := by show banB S k = S1; rw [show banB S k = { S1 with O := addO S.O k } from HS1.out, addO, if_pos hm, ← HSO.out]
      rw [HD.out] at CB
      clear hm
      go_wp2_with (refine wpList_load28 rfl (.tmp 3) rfl w.heap.size 0 rfl k (range_box KW.out) ?_)
      refine CB.mono ?_
      rintro e X1 ⟨rfl, f1⟩
      have HF : Hid (Gr B p28 [rb] w X1 ∧ RBk B X1 rb (banB S k)) := by
        refine ⟨Gr.ofFr (FW.out.trans (f1.sub (by simp))) (by simp), ?_⟩
        rw [HE.out]
        exact RW.out.fr0 f1
      clear f1 CB
      go_wp2
      exact bodyPost_end (results_none rfl _ _ _) rfl ⟨rfl, HF.out⟩
    · have HD : Hid (decide (k ∈ S.O) = false) := decide_eq_false hm
      have HE : Hid (banB S k = { S1 with O := S.O ++ [k] }) := by show banB S k = { S1 with O := S.O ++ [k] }; rw [show banB S k = { S1 with O := addO S.O k } from HS1.out, addO, if_neg hm]
      rw [HD.out] at CB
      clear hm
      go_wp2_with (refine wpList_load28 rfl (.tmp 3) rfl w.heap.size 0 rfl k (range_box KW.out) ?_)
      refine CB.mono ?_
      rintro e X1 ⟨rfl, f1⟩
      have RX : Hid (RBk B X1 rb S1) := RW.out.fr0 f1
      have FX : Hid (Fr [rb] w X1) := FW.out.trans (f1.sub (by simp))
      have KX : Hid (X1.heap[w.heap.size]? = some (.cells (kc k) 28 (0, 0))) := (f1.block _ (Array.getElem?_eq_some_iff.1 KW.out).1 (by simp)).trans KW.out
      have F1C : Hid (X1.cell? ⟨rb, 1, none⟩ = w.cell? ⟨rb, 1, none⟩) := by
        obtain ⟨sv, so, hb, _⟩ := RW.out.ex
        show X1.cell? ⟨rb, 1, none⟩ = w.cell? ⟨rb, 1, none⟩
        rw [← C1W.out, f1.cell1 (at_cells hb 1 rfl) (by simp), at_cells hb 1 rfl]
      clear f1 CB
      go_wp2
      obtain ⟨sv, so, hb, hr, ho⟩ := RX.out.ex
      obtain ⟨fa, fc, rfl, _⟩ := own_slice ho
      obtain ⟨x0, x1, x2, x3, x4, x5, x6, x7, x8, x9, hkc⟩ := kc_ten k
      have hB1 : B ≤ X1.heap.size := Nat.le_trans HB.out FX.out.size
      have hkb : ∀ q, (Value.slice fa S1.O.length fc).ownBlock = some q → q ≠ w.heap.size := KBN.out _ (F1C.out ▸ at_cells hb 1 rfl)
      have hne := RBk.ne46 hb ho (by decide)
      have hrb : rb ∉ (Value.slice fa S1.O.length fc).ownBlock.toList := fun hq => by simp only [Option.mem_toList] at hq; exact hne _ hq rfl
      refine reg15 (B := B) (xs := S1.O.flatMap kcl) (fn := S1.O.length) (fa := fa) (fc := fc) (rb := rb) (kb := w.heap.size) (x0 := x0) (x1 := x1) (x2 := x2) (x3 := x3) (x4 := x4) (x5 := x5) (x6 := x6) (x7 := x7) (x8 := x8) (x9 := x9) ho hB1 ?_ ?_ ?_ ?_ (by rw [HSO.out]; have := HO.out; omega) ?_
      · intro w' f; exact f.cell1 (at_cells hb 1 rfl) (by simp)
      · intro w' f; exact f.cell1 (at_cells hb 1 rfl) hrb
      · intro w' f; exact frozen4 ((f.block _ (Array.getElem?_eq_some_iff.1 hb).1 hrb).trans hb) 1
      · intro w' f
        have hq := range_box ((f.block _ (Array.getElem?_eq_some_iff.1 KX.out).1 (fun hq => by
          rcases List.mem_cons.1 hq with hq | hq
          · have := HRL.out; omega
          · simp only [Option.mem_toList] at hq; exact hkb _ hq rfl)).trans KX.out)
        rw [hkc] at hq
        exact hq
      · intro n17 n18 n19 n20 n21 n22 n23 n24 n25 n26 X2 fa' fc' f2 o2 l2
        have HF : Hid (Gr B p28 [rb] w (X2.setCell ⟨rb, 1, none⟩ (.slice fa' (S1.O.length + 1) fc')) ∧ RBk B (X2.setCell ⟨rb, 1, none⟩ (.slice fa' (S1.O.length + 1) fc')) rb (banB S k)) := by
          have b2 := (f2.block _ (Array.getElem?_eq_some_iff.1 hb).1 hrb).trans hb
          have g3 : Fr [rb] X2 (X2.setCell ⟨rb, 1, none⟩ (.slice fa' (S1.O.length + 1) fc')) := (Fr.refl _ _).setCell (.inl (by simp)) _
          have r2 : X2.ownsRow B 64 11 sv S1.L.length (S1.L.flatMap rc) := own_fr hr f2 (fun q hq hm => by
            simp only [Option.mem_toList] at hm
            obtain ⟨_, c1, h1⟩ := own_type ho hm
            obtain ⟨_, c2, h2⟩ := own_type hr hq
            rw [h1] at h2
            cases h2)
          refine ⟨(Gr.ofFr FX.out (by simp)).trans ((Gr.ofFr f2 (fun q hq => ?_)).trans (Gr.ofFr g3 (by simp))), ?_⟩
          · simp only [Option.mem_toList] at hq
            obtain ⟨h1, c1, h2⟩ := own_type ho hq
            exact .inr (.inr ⟨h1, _, _, _, h2, rfl⟩)
          · rw [HE.out]
            refine ⟨_, _, set_at31 b2, ?_, ?_⟩
            · refine own_fr r2 g3 (fun q hq hm => ?_)
              simp at hm
              exact RBk.ne46 b2 r2 (by decide) q hq hm
            · show World.ownsRow _ B 28 10 _ (S.O ++ [k]).length ((S.O ++ [k]).flatMap kcl)
              rw [kcl_flat, hkc, List.length_append, ← HSO.out]
              refine own_fr o2 g3 (fun q hq hm => ?_)
              simp at hm
              exact RBk.ne46 b2 o2 (by decide) q hq hm
        clear f2 o2 l2
        go_wp2
        exact bodyPost_end (results_none rfl _ _ _) rfl ⟨rfl, HF.out⟩
end Go.Proofs.Ytjeddgjndpdhoaa
