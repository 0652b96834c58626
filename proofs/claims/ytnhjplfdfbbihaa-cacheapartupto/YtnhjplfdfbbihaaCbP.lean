/-
  A trace is put; condition: the cache and the trace lie as told.
-/
import Derived.Test.YtnhjplfdfbbihaaCbO
namespace Go.Proofs.Ytnhjplfdfbbihaa
open Go.RowKit Go.Shelf Go.Maps Go.ChangeShapes
set_option linter.unusedVariables false
set_option linter.unusedSimpArgs false
theorem bodyPost_mono {P : Program} {fn : Func} {R R' : Ending → World → Prop} (h : ∀ e w, R e w → R' e w) {e : Exit} {a : Act} {w : World} (hh : bodyPost P fn R e a w) : bodyPost P fn R' e a w := by
  cases e with
  | normal => obtain ⟨h1, v, h2, h3⟩ := hh; exact ⟨h1, v, h2, h _ _ h3⟩
  | ret => obtain ⟨h1, v, h2, h3⟩ := hh; exact ⟨h1, v, h2, h _ _ h3⟩
  | panic c => exact ⟨hh.1, h _ _ hh.2⟩
  | outgrown => exact h _ _ hh
  | _ => exact hh
theorem drop_pk (S : Bk) (k : Ky) : (dropB S k).pk = S.pk := by unfold dropB; split <;> rfl
set_option maxRecDepth 100000 in
set_option maxHeartbeats 8000000 in
theorem put_any {w : World} {B c n : Nat} {rs : List Rt} {S : Bk} (h : CA w B c n rs S) (ho : Ok S n) (hn : n ≤ 100000000000000) (hBw : B ≤ w.heap.size) (hpw : ∀ x ∈ S.pk, W64 x) {t : Tr} (ht : TrOk w B t) (hat : ATOk t.abs) :
    Calls Try.prog 14 #[.pointer (some ⟨c, 0, none⟩), .agg t.arr] w fun e w' => e = .returned (.int .i64 (putR S)) ∧ (∃ rs', CA w' B c (n + 1) rs' (putB S t.abs)) ∧ Gm B pP true w w' := by
  have F1 : Fr [] w (w.alloc (.cells t.arr 35)) := (Fr.refl _ _).alloc _
  have h1 := h.fr0 F1
  have hx := heap_alloc_new w (.cells t.arr 35)
  have ht1 := ht.fr0 F1
  have hB1 : B ≤ (w.alloc (.cells t.arr 35)).heap.size := Nat.le_trans hBw F1.size
  have k0 : (w.alloc (.cells t.arr 35)).cell? ⟨c, 0, none⟩ = some (.int .i64 S.lim) := by obtain ⟨pa, pcap, hb, ov, fb, lb, hp⟩ := h1.ex; exact at_cells hp.blk 0 rfl
  have kc0 : kw t.k := hat.kw
  by_cases h0 : S.lim = 0
  · have HR : Hid (putR S = -1 ∧ putB S t.abs = S) := by refine ⟨?_, ?_⟩ <;> simp [putR, putB, h0]
    have HC : Hid (CA (w.alloc (.cells t.arr 35)) B c n rs S ∧ Fr [] w (w.alloc (.cells t.arr 35))) := ⟨h1, F1⟩
    rw [h0] at k0
    clear h h1 ho hx ht ht1 hB1 hat hpw h0 F1
    go_enter Try.func14, Try.ntmps14
    go_upto_region 1 with fail
    generalize w.alloc (.cells t.arr 35) = V at *
    go_wp2
    go_ret
    exact ⟨by rw [HR.out.1]; rfl, ⟨_, by rw [HR.out.2]; exact HC.out.1.more (by omega)⟩, Gm.ofFr0 HC.out.2⟩
  · have hdr := drop_any h1 ho hn hB1 kc0
    obtain ⟨lm, hlm⟩ : ∃ lm, S.lim = lm := ⟨_, rfl⟩
    rw [hlm] at k0
    have hl0 : ¬ ((lm : Int) = 0) := by omega
    have HK : Hid ((w.alloc (.cells t.arr 35)).rangeAt w.heap.size 0 (kc t.k).toList) := Tr.key_range hx
    have HC : Hid (Fr [] w (w.alloc (.cells t.arr 35)) ∧ (w.alloc (.cells t.arr 35)).heap[w.heap.size]? = some (.cells t.arr 35 (0, 0)) ∧ TrOk (w.alloc (.cells t.arr 35)) B t ∧ B ≤ (w.alloc (.cells t.arr 35)).heap.size ∧ Ok S n ∧ S.lim ≠ 0 ∧ (∀ x ∈ S.pk, W64 x) ∧ ATOk t.abs) := ⟨F1, hx, ht1, hB1, ho, h0, hpw, hat⟩
    clear h h1 ho hx ht ht1 hB1 hat hpw h0 F1 hlm
    go_enter Try.func14, Try.ntmps14
    go_upto_region 3 with fail
    generalize w.alloc (.cells t.arr 35) = V at *
    generalize w.heap.size = tb at *
    go_wp2_with (first
      | refine wpList_ld29 rfl (.tmp 15) rfl tb 0 rfl t.k HK.out ?_
      | (go_at_call 18; refine hdr.mono ?_; rintro e w1 ⟨rfl, ⟨rs1, hca⟩, hgm⟩; have HD : Hid (CA w1 B c n rs1 (dropB S t.k) ∧ Gm B pP true V w1) := ⟨hca, hgm⟩; clear hca hgm hdr k0 HK))
    obtain ⟨hF1, hx, ht1, hB1, ho, h0, hpw, hat⟩ := HC.out
    refine put_loop (W0 := w) (S1 := dropB S t.k) (t := t) (tb := tb) hn ⟨HD.out.1, ho.drop _, rfl, by rw [drop_lim]; exact h0, by rw [drop_pk]; exact hpw, drop_free ho t.k, (HD.out.2.block _ (Array.getElem?_eq_some_iff.1 hx).1 (.inr (.inl ⟨_, _, _, hx, rfl⟩))).trans hx, ht1.gm HD.out.2 pP_ro, (Gm.ofFr0 hF1).trans HD.out.2, Nat.le_trans hB1 HD.out.2.size⟩ ?_
    intro rs2 W2 hI hlt _ _ _ _ _ _ _ _ _ _ _ _ _ _ _ _ _ _ _ _ _ _ _ _ _
    apply_assumption
    refine wp_mono (put_tail (t := t) hI.ca hI.ok hn hI.big hlt hI.keys hat hI.box hI.tr) ?_
    intro e a w' hh
    have HI : Hid (Gm B pP true w W2 ∧ S.lim ≠ 0) := ⟨hI.gm, h0⟩
    clear hI hlt hF1 hx ht1 hB1 ho hpw hat HC HD
    refine bodyPost_mono (fun e w' hq => ?_) hh
    obtain ⟨h1, h2, h3⟩ := hq
    rw [room_last, drop_last] at h1
    have e1 : putR S = ((S.last + 1 : Nat) : Int) := by unfold putR; rw [if_neg HI.out.2]; rfl
    have e2 : putB S t.abs = pushB (roomB (dropB S t.k)) t.abs := by unfold putB; rw [if_neg HI.out.2]; rfl
    exact ⟨by rw [e1]; exact h1, by rw [e2]; exact h2, HI.out.1.trans h3⟩
end Go.Proofs.Ytnhjplfdfbbihaa
