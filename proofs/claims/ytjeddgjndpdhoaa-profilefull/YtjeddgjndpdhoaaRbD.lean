/-
  The document's drop, Count and Ban; conditions: the book lies as told, keys are numbers of 64 bits.
-/
import Derived.Test.YtjeddgjndpdhoaaRbC
namespace Go.Proofs.Ytjeddgjndpdhoaa
open Go.RowKit Go.Shelf Go.Maps Go.ChangeShapes
set_option linter.unusedVariables false
set_option linter.unusedSimpArgs false

theorem set_at30 {W : World} {k : Nat} {u0 u1 u2 v : Value} {t : TypeId} {z : Nat × Nat} (h : W.heap[k]? = some (.cells #[u0, u1, u2] t z)) : (W.setCell ⟨k, 0, none⟩ v).heap[k]? = some (.cells #[v, u1, u2] t z) := by simp [World.setCell, Array.getElem?_modify, h]
theorem set_at31 {W : World} {k : Nat} {u0 u1 u2 v : Value} {t : TypeId} {z : Nat × Nat} (h : W.heap[k]? = some (.cells #[u0, u1, u2] t z)) : (W.setCell ⟨k, 1, none⟩ v).heap[k]? = some (.cells #[u0, v, u2] t z) := by simp [World.setCell, Array.getElem?_modify, h]
theorem RBk.ne46 {w : World} {rb : Nat} {sv so th : Value} {B n : Nat} {e : TypeId} {size : Nat} {v : Value} {xs : List Value} (hb : w.heap[rb]? = some (.cells #[sv, so, th] 46 (0, 0))) (h : w.ownsRow B e size v n xs) (he : e ≠ 46) : ∀ k, v.ownBlock = some k → k ≠ rb := fun k hk e1 => by
  obtain ⟨_, cur, hc⟩ := own_type h hk
  rw [e1, hb] at hc
  cases hc
  exact he rfl
set_option maxRecDepth 100000 in
set_option maxHeartbeats 2000000 in
theorem drop_any {B : Nat} {w : World} {rb : Nat} {S : Bk} (h : RBk B w rb S) (hB : B ≤ w.heap.size) (hl : S.L.length ≤ 100000) {i : Nat} (hi : i < S.L.length) : Calls Try.prog 25 #[.pointer (some ⟨rb, 0, none⟩), .int .i64 (i : Nat)] w fun e w' => e = .returned (.tuple #[]) ∧ Fr [rb] w w' ∧ RBk B w' rb { S with L := S.L.eraseIdx i } ∧ w'.cell? ⟨rb, 1, none⟩ = w.cell? ⟨rb, 1, none⟩ := by
  obtain ⟨sv, so, hb, hr, ho⟩ := h.ex
  obtain ⟨g, c, rfl, hq1, hg, hq2, hBg, cur, hgc⟩ := own_at rc_len hr (List.getElem?_eq_getElem hi)
  clear hq1 hq2
  have HB : Hid (B ≤ w.heap.size) := hB
  have hNc : S.L.length ≤ c := by
    rcases hr.2 with ⟨e, _⟩ | ⟨g', c', cur', e, _, _, h2, _⟩
    · cases e
    · cases e; exact h2
  have HO : Hid (w.ownsRow B 28 10 so S.O.length (S.O.flatMap kcl)) := ho
  have HR : Hid (w.ownsRow B 64 11 (.slice (some ⟨g, 0, none⟩) S.L.length c) S.L.length (S.L.flatMap rc)) := hr
  have HBL : Hid (w.heap[rb]? = some (.cells #[.slice (some ⟨g, 0, none⟩) S.L.length c, so, .int .i64 S.thr] 46 (0, 0))) := hb
  have HI : Hid (i < S.L.length) := hi
  have HL : Hid (S.L.length ≤ 100000) := hl
  have HC : Hid (S.L.length ≤ c) := hNc
  clear h hr ho hb hi hl hNc hB hg hBg hgc cur
  go_enter Try.func25, Try.ntmps25
  go_wp2_with fail
  refine reg25 (B := B) (L := S.L) (N := S.L.length) (c := c) (g := g) (i := i) (rb := rb) ?_ ?_ HR.out (show S.L.length = S.L.length from rfl) HI.out HL.out HC.out ?_
  · intro w' f; exact f.cell1 (at_cells HBL.out 0 rfl) (by simp)
  · intro w' f; exact frozen4 ((f.block _ (Array.getElem?_eq_some_iff.1 HBL.out).1 (by simp)).trans HBL.out) 0
  · intro n4 n5 n6 n7 n8 n9 n10 n11 n12 n13 n14 n15 n16 n17 n18 n19 n20 n21 X2 fa fc f2 o2
    have HE : Hid (Fr [rb] w (X2.setCell ⟨rb, 0, none⟩ (.slice fa (i + (S.L.length - (i + 1))) fc)) ∧ RBk B (X2.setCell ⟨rb, 0, none⟩ (.slice fa (i + (S.L.length - (i + 1))) fc)) rb { S with L := S.L.eraseIdx i } ∧ (X2.setCell ⟨rb, 0, none⟩ (.slice fa (i + (S.L.length - (i + 1))) fc)).cell? ⟨rb, 1, none⟩ = w.cell? ⟨rb, 1, none⟩) := by
      have f3 : Fr [rb] w X2 := f2.sub (by simp)
      have b2 := (f2.block _ (Array.getElem?_eq_some_iff.1 HBL.out).1 (by simp)).trans HBL.out
      have g3 : Fr [rb] X2 (X2.setCell ⟨rb, 0, none⟩ (.slice fa (i + (S.L.length - (i + 1))) fc)) := (Fr.refl _ _).setCell (.inl (by simp)) _
      have hlen : (S.L.eraseIdx i).length = i + (S.L.length - (i + 1)) := by
        have := HI.out
        rw [List.length_eraseIdx_of_lt this]; omega
      refine ⟨f3.trans g3, ⟨_, _, set_at30 b2, ?_, ?_⟩, (at_cells (set_at30 b2) 1 rfl).trans (at_cells HBL.out 1 rfl).symm⟩
      · show World.ownsRow _ B 64 11 _ (S.L.eraseIdx i).length ((S.L.eraseIdx i).flatMap rc)
        rw [hlen, List.eraseIdx_eq_take_drop_succ, List.flatMap_append]
        refine own_fr (own_low o2 HB.out) g3 (fun k hk hm => ?_)
        simp at hm
        exact RBk.ne46 b2 o2 (by decide) k hk hm
      · have o3 := own_fr HO.out f2 (by simp)
        refine own_fr o3 g3 (fun k hk hm => ?_)
        simp at hm
        exact RBk.ne46 b2 o3 (by decide) k hk hm
    clear f2 o2
    go_wp2
    exact bodyPost_end (results_none rfl _ _ _) rfl ⟨rfl, HE.out⟩
set_option maxRecDepth 100000 in
set_option maxHeartbeats 2000000 in
theorem rcount_any {B : Nat} {w : World} {rb : Nat} {S : Bk} (h : RBk B w rb S) (hok : Ok S) {k : Ky} (hk : kw k) : Calls Try.prog 19 #[.pointer (some ⟨rb, 0, none⟩), .agg (kc k)] w fun e w' => e = .returned (.int .i64 (cntL S.L k)) ∧ Fr [] w w' := by
  have CF := find_any (h.fr0 ((Fr.refl [] w).alloc (.cells (kc k) 28))) hok.kw (by have := hok.len; omega) hk
  have KB0 := range_box (heap_alloc_new w (.cells (kc k) 28))
  cases hh : hasL S.L k with
  | false =>
    rw [fnd_hasnt hh] at CF
    rw [cnt_no hh]
    clear h hh hok
    go_enter Try.func19, Try.ntmps19
    go_wp2_with (refine wpList_load28 rfl (.tmp 3) rfl w.heap.size 0 rfl k KB0 ?_)
    refine CF.mono ?_
    rintro e w' ⟨rfl, f⟩
    have HF : Hid (Fr [] w w') := ((Fr.refl [] w).alloc _).trans f
    clear f CF KB0
    go_wp2
    go_ret
    exact ⟨rfl, HF.out⟩
  | true =>
    obtain ⟨i, r, hi, hrk, hf, hrow⟩ := fnd_has hok.nd hh
    rw [hf] at CF
    rw [(cnt_of hrow).1]
    obtain ⟨sv, so, hb, hr, ho⟩ := h.ex
    have hlt := (List.getElem?_eq_some_iff.1 hi).1
    have hlI : (i : Int) < S.L.length := by omega
    have hl3 : (S.L.length : Int) ≤ 1000 := by have := hok.len; omega
    obtain ⟨g, c, rfl, hrg, hg, _, hBg, cur, hgc⟩ := own_at rc_len hr hi
    have HG : Hid (w.cell? ⟨g, i * 11 + 10, none⟩ = some (.int .i64 r.n)) := hrg 10 _ (by simp [rc, kc_size])
    have HBL : Hid (w.heap[rb]? = some (.cells #[.slice (some ⟨g, 0, none⟩) S.L.length c, so, .int .i64 S.thr] 46 (0, 0))) := hb
    generalize S.L.length = N at *
    clear h hh hok hi hrk hf hrow hr ho hb hrg hgc hg hBg cur
    go_enter Try.func19, Try.ntmps19
    go_wp2_with (refine wpList_load28 rfl (.tmp 3) rfl w.heap.size 0 rfl k KB0 ?_)
    refine CF.mono ?_
    rintro e w' ⟨rfl, f⟩
    have HF : Hid (Fr [] w w') := ((Fr.refl [] w).alloc _).trans f
    have c0 : w'.cell? ⟨rb, 0, none⟩ = some (.slice (some ⟨g, 0, none⟩) N c) := HF.out.cell1 (at_cells HBL.out 0 rfl) (by simp)
    have c1 : w'.cell? ⟨g, i * 11 + 10, none⟩ = some (.int .i64 r.n) := HF.out.cell1 HG.out (by simp)
    have hn : ¬ ((i : Int) < 0) := by omega
    clear f CF KB0
    go_wp2
    go_ret
    exact ⟨rfl, HF.out⟩
end Go.Proofs.Ytjeddgjndpdhoaa
