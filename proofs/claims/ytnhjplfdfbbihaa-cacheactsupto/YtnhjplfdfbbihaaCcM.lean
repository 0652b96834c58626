/-
  The document puts a trace; condition: the cache and the trace lie as told.
-/
import Derived.Test.YtnhjplfdfbbihaaCcL
namespace Go.Proofs.Ytnhjplfdfbbihaa
open Go.RowKit Go.Shelf Go.Maps Go.ChangeShapes
set_option linter.unusedVariables false
set_option linter.unusedSimpArgs false
set_option maxRecDepth 100000 in
set_option maxHeartbeats 8000000 in
theorem put_r {w : World} {B c n : Nat} {rs : List Rt} {S : Bk} (h : RA w B c rs S) (ho : Ok S n) (hn : n ≤ 1048576) (hBw : B ≤ w.heap.size) {t : Tr} (ht : TrOk w B t) (hat : ATOk t.abs) :
    Calls Try.prog 23 #[.pointer (some ⟨c, 0, none⟩), .agg t.arr] w fun e w' => e = .returned (.int .i64 (putR S)) ∧ (∃ rs', RA w' B c rs' (putB S t.abs)) ∧ Gm B pR false w w' := by
  have F1 : Fr [] w (w.alloc (.cells t.arr 35)) := (Fr.refl _ _).alloc _
  have h1 := h.fr0 F1
  have hx := heap_alloc_new w (.cells t.arr 35)
  have ht1 := ht.fr0 F1
  have hB1 : B ≤ (w.alloc (.cells t.arr 35)).heap.size := Nat.le_trans hBw F1.size
  have k2 : (w.alloc (.cells t.arr 35)).cell? ⟨c, 2, none⟩ = some (.int .i64 S.lim) := by obtain ⟨rv, nv, pa, pcap, pf, used, hp, _⟩ := h1.ex; exact at_cells hp.blk 2 rfl
  have kc0 : kw t.k := hat.kw
  by_cases h0 : S.lim = 0
  · have HR : Hid (putR S = -1 ∧ putB S t.abs = S) := by refine ⟨?_, ?_⟩ <;> simp [putR, putB, h0]
    have HC : Hid (RA (w.alloc (.cells t.arr 35)) B c rs S ∧ Fr [] w (w.alloc (.cells t.arr 35))) := ⟨h1, F1⟩
    rw [h0] at k2
    clear h h1 ho hx ht ht1 hB1 hat h0 F1 hn hBw
    go_enter Try.func23, Try.ntmps23
    go_upto_region 1 with fail
    generalize w.alloc (.cells t.arr 35) = V at *
    go_wp2
    go_ret
    exact ⟨by rw [HR.out.1]; rfl, ⟨_, by rw [HR.out.2]; exact HC.out.1⟩, Gm.ofFr0 HC.out.2⟩
  · obtain ⟨lm, hlm⟩ : ∃ lm, S.lim = lm := ⟨_, rfl⟩
    rw [hlm] at k2
    have hl0 : ¬ ((lm : Int) = 0) := by omega
    have HK : Hid ((w.alloc (.cells t.arr 35)).rangeAt w.heap.size 0 (kc t.k).toList) := Tr.key_range hx
    have CF := find_any h1 ho kc0
    have HC : Hid (Fr [] w (w.alloc (.cells t.arr 35)) ∧ (w.alloc (.cells t.arr 35)).heap[w.heap.size]? = some (.cells t.arr 35 (0, 0)) ∧ TrOk (w.alloc (.cells t.arr 35)) B t ∧ B ≤ (w.alloc (.cells t.arr 35)).heap.size ∧ Ok S n ∧ S.lim ≠ 0 ∧ n ≤ 1048576 ∧ RA (w.alloc (.cells t.arr 35)) B c rs S) := ⟨F1, hx, ht1, hB1, ho, h0, hn, h1⟩
    have HAT : Hid (ATOk t.abs ∧ rs.map absR = S.rows) := ⟨hat, h.abs⟩
    -- what goes on behind the drop
    have fin : ∀ (W2 : World) (rs2 : List Rt), RutI w W2 B c n w.heap.size t (dropB S t.k) rs2 (roomB (dropB S t.k)) → ∀ {e : Exit} {a : Act} {w' : World}, bodyPost Try.prog Try.f23 (fun e w' => e = .returned (.int .i64 (((roomB (dropB S t.k)).last + 1 : Nat) : Int)) ∧ (∃ rs', RA w' B c rs' (pushB (roomB (dropB S t.k)) t.abs)) ∧ Gm B pR false W2 w') e a w' → bodyPost Try.prog Try.f23 (fun e w' => e = .returned (.int .i64 (putR S)) ∧ (∃ rs', RA w' B c rs' (putB S t.abs)) ∧ Gm B pR false w w') e a w' := by
      intro W2 rs2 hI e a w' hh
      refine bodyPost_mono (fun e w' hq => ?_) hh
      obtain ⟨h1, h2, h3⟩ := hq
      rw [room_last, drop_last] at h1
      have e1 : putR S = ((S.last + 1 : Nat) : Int) := by unfold putR; rw [if_neg h0]; rfl
      have e2 : putB S t.abs = pushB (roomB (dropB S t.k)) t.abs := by unfold putB; rw [if_neg h0]; rfl
      exact ⟨by rw [e1]; exact h1, by rw [e2]; exact h2, hI.gm.trans h3⟩
    have HFIN := hid fin
    clear h h1 ho hx ht ht1 hB1 hat h0 F1 hlm hn hBw fin
    cases hkf : kfind S.rows t.k with
    | none =>
      rw [hkf] at CF
      change Calls Try.prog 36 _ _ (fun e w' => e = .returned (.int .i64 (-1)) ∧ _) at CF
      have HD : Hid (dropB S t.k = S) := by show dropB S t.k = S; unfold dropB; rw [hkf]
      clear hkf
      go_enter Try.func23, Try.ntmps23
      go_upto_region 3 with fail
      generalize w.alloc (.cells t.arr 35) = V at *
      generalize w.heap.size = tb at *
      go_wp2_with (first
        | refine wpList_ld29 rfl (.tmp 13) rfl tb 0 rfl t.k HK.out ?_
        | (go_at_call 36; refine CF.mono ?_; rintro e w1 ⟨rfl, f1⟩; have HF1 : Hid (Fr [] V w1) := f1; clear f1 CF HK k2))
      obtain ⟨hF1, hx, ht1, hB1, ho, h0, hn, hra⟩ := HC.out
      refine rut_loop (W0 := w) (S1 := dropB S t.k) (S := S) (t := t) (tb := tb) (rs := rs) hn ⟨hra.fr0 HF1.out, ho, by rw [HD.out], h0, (HF1.out.block _ (Array.getElem?_eq_some_iff.1 hx).1 (by simp)).trans hx, ht1.fr0 HF1.out, Gm.ofFr0 (hF1.trans HF1.out), Nat.le_trans hB1 HF1.out.size⟩ (hid ?_)
      intro rs2 W2 hI _ _ _ _ _ _ _ _ _ _ _ _ _ _ _ _ _ _ _ _ _ _ _ _ _ _ _ _ _ _ _ _ _ _ _ _ _ _ _ _ _ _ _ _ _ _ _ _ _ _ _ _ _ _ _ _ _
      apply_assumption
      refine Code.wp_mono ?_ (put_rt (t := t) hI.ra hI.ok hn hI.big hI.box hI.tr)
      intro e a w' hh
      exact HFIN.out W2 rs2 hI hh
    | some i =>
      rw [hkf] at CF
      change Calls Try.prog 36 _ _ (fun e w' => e = .returned (.int .i64 (i : Int)) ∧ _) at CF
      have HD : Hid (dropB S t.k = goneB S i ∧ i < rs.length) := ⟨by unfold dropB; rw [hkf], kfind_lt HAT.out.2 hkf⟩
      have hi0 : (0 : Int) ≤ (i : Int) := by omega
      clear hkf
      go_enter Try.func23, Try.ntmps23
      go_upto_region 3 with fail
      generalize w.alloc (.cells t.arr 35) = V at *
      generalize w.heap.size = tb at *
      go_wp2_with (first
        | refine wpList_ld29 rfl (.tmp 13) rfl tb 0 rfl t.k HK.out ?_
        | (go_at_call 36; refine CF.mono ?_; rintro e w1 ⟨rfl, f1⟩; have HF1 : Hid (Fr [] V w1) := f1; have CG := gone_any (HC.out.2.2.2.2.2.2.2.fr0 f1) HC.out.2.2.2.2.1 HC.out.2.2.2.2.2.2.1 (Nat.le_trans HC.out.2.2.2.1 f1.size) HD.out.2; clear f1 CF HK k2)
        | (go_at_call 37; refine CG.mono ?_; rintro e w2 ⟨rfl, h2, g2⟩; have H2 : Hid (RA w2 B c (rs.eraseIdx i) (goneB S i) ∧ Gm B pR false w1 w2) := ⟨h2, g2⟩; clear h2 g2 CG))
      obtain ⟨hF1, hx, ht1, hB1, ho, h0, hn, hra⟩ := HC.out
      have gV : Gm B pR false V w2 := (Gm.ofFr0 HF1.out).trans H2.out.2
      refine rut_loop (W0 := w) (S1 := dropB S t.k) (S := dropB S t.k) (t := t) (tb := tb) (rs := rs.eraseIdx i) hn ⟨by rw [HD.out.1]; exact H2.out.1, ho.drop _, rfl, by rw [drop_lim]; exact h0, (gV.block _ (Array.getElem?_eq_some_iff.1 hx).1 (.inr (.inl ⟨_, _, _, hx, rfl⟩))).trans hx, ht1.gm gV pR_ro, (Gm.ofFr0 hF1).trans gV, Nat.le_trans hB1 gV.size⟩ (hid ?_)
      intro rs2 W2 hI _ _ _ _ _ _ _ _ _ _ _ _ _ _ _ _ _ _ _ _ _ _ _ _ _ _ _ _ _ _ _ _ _ _ _ _ _ _ _ _ _ _ _ _ _ _ _ _ _ _ _ _ _ _ _ _ _
      apply_assumption
      refine Code.wp_mono ?_ (put_rt (t := t) hI.ra hI.ok hn hI.big hI.box hI.tr)
      intro e a w' hh
      exact HFIN.out W2 rs2 hI hh
end Go.Proofs.Ytnhjplfdfbbihaa
