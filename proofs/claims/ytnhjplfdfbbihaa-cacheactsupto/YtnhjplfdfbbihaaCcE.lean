/-
  The document counts, leads on, tells where it leads; condition: the cache lies as told.
-/
import Derived.Test.YtnhjplfdfbbihaaCcD
namespace Go.Proofs.Ytnhjplfdfbbihaa
open Go.RowKit Go.Shelf Go.Maps Go.ChangeShapes
set_option linter.unusedVariables false
set_option linter.unusedSimpArgs false
set_option maxRecDepth 100000 in
set_option maxHeartbeats 4000000 in
theorem fail_r {w : World} {B c n : Nat} {rs : List Rt} {S : Bk} (h : RA w B c rs S) (ho : Ok S n) (hn : n ≤ 1048576) (hBw : B ≤ w.heap.size) (i p : Int) :
    Calls Try.prog 25 #[.pointer (some ⟨c, 0, none⟩), .int .i64 i, .int .i64 p] w fun e w' => e = .returned (.int .i64 (failR S i p)) ∧ RA w' B c rs (failB S i p) ∧ Gm B pR false w w' := by
  have C := held_r h ho i
  have habs := h.abs
  cases e1 : heldB S i with
  | false =>
    rw [e1] at C
    have HR : Hid (failR S i p = 0 ∧ failB S i p = S) := by refine ⟨?_, ?_⟩ <;> simp [failR, failB, e1]
    have HC : Hid (RA w B c rs S) := h
    clear h ho e1 hn hBw
    go_enter Try.func25, Try.ntmps25
    go_wp2_with (go_at_call 38; refine C.mono ?_; rintro e w1 ⟨rfl, f1⟩)
    go_ret
    exact ⟨by rw [HR.out.1]; rfl, by rw [HR.out.2]; exact HC.out.fr0 f1, Gm.ofFr0 f1⟩
  | true =>
    rw [e1] at C
    have hcn : 0 ≤ cntN S.notes i p ∧ cntN S.notes i p ≤ 1048576 := by
      unfold cntN
      cases e : nfnd S.notes i p with
      | none => simp
      | some x => have := ho.nf x (List.mem_of_find?_eq_some e); simp only [Option.getD_some]; omega
    have HR : Hid (failR S i p = cntN S.notes i p + 1 ∧ failB S i p = { S with notes := updN S.notes i p failU }) := ⟨by simp [failR, e1], by simp [failB, e1]⟩
    have HC : Hid (RA w B c rs S ∧ B ≤ w.heap.size ∧ S.notes.length ≤ 1048576) := ⟨h, hBw, by have := ho.nn; omega⟩
    clear h ho e1 hn hBw
    go_enter Try.func25, Try.ntmps25
    go_upto_region 3 with (go_at_call 38; refine C.mono ?_; rintro e w1 ⟨rfl, f1⟩; have HF : Hid (Fr [] w w1) := f1; clear C f1)
    obtain ⟨rv, nv, pa, pcap, pf, used, hp, hpk, hus⟩ := (HC.out.1.fr0 HF.out).ex
    have CN := note_any hp (Nat.le_trans HC.out.2.1 HF.out.size) HC.out.2.2 i p
    have HPK : Hid (pf.drop used = S.pk ∧ used ≤ pf.length ∧ rs.map absR = S.rows) := ⟨hpk, hus, habs⟩
    clear hp hpk hus habs
    go_upto_region 4 with (go_at_call 39; refine CN.mono ?_; rintro e w2 ⟨g, j, rfl, hq⟩; have HQ : Hid (NoteQ B c rv S.lim pa pcap pf used S.last S.top rs S.notes i p w1 w2 g j) := hq; clear hq CN)
    obtain ⟨ns', cap, x, hP2, hx, hxe, hu, hg2⟩ := HQ.out
    have hxf : x.f = cntN S.notes i p := by rw [hxe]; rfl
    have k2 : w2.cell? ⟨g, j * 4 + 2, none⟩ = some (.int .i64 x.f) := rowN_at hP2.notes hx 2 _ rfl
    obtain ⟨_, cur, hgb⟩ := own_block hP2.notes
    have z2 : w2.frozen? ⟨g, j * 4 + 2, none⟩ = false := frz hgb
    obtain ⟨hP3, hg3⟩ := hP2.setNote hx 2 (by decide) (.int .i64 (x.f + 1)) (y := failU x) rfl
    rw [← hu failU] at hP3
    have hlen2 : (updN S.notes i p failU).length = ns'.length := by rw [hu failU, List.length_set]
    rw [← hlen2] at hP3
    have HF3 : Hid (RA (w2.setCell ⟨g, j * 4 + 2, none⟩ (.int .i64 (x.f + 1))) B c rs { S with notes := updN S.notes i p failU } ∧ Gm B pR false w (w2.setCell ⟨g, j * 4 + 2, none⟩ (.int .i64 (x.f + 1)))) := ⟨⟨⟨_, _, _, _, _, _, hP3, HPK.out.1, HPK.out.2.1⟩, HPK.out.2.2⟩, ((Gm.ofFr0 HF.out).trans hg2).trans hg3⟩
    have k3 : (w2.setCell ⟨g, j * 4 + 2, none⟩ (.int .i64 (x.f + 1))).cell? ⟨g, j * 4 + 2, none⟩ = some (.int .i64 (x.f + 1)) := by
      refine at_cells (set_blk hgb) (j * 4 + 2) ?_
      have : cur[j * 4 + 2]? = some (.int .i64 x.f) := by simpa [World.cell?, hgb] using k2
      have hlt := (Array.getElem?_eq_some_iff.1 this).1
      simp [hlt]
    have hq0 : 0 ≤ x.f := by rw [hxf]; exact hcn.1
    have hq1 : x.f ≤ 1048576 := by rw [hxf]; exact hcn.2
    have HXF : Hid (x.f = cntN S.notes i p) := hxf
    clear hP2 hx hxe hu hg2 hxf hgb hP3 hg3 hlen2 hcn HQ HF HC HPK
    generalize x.f = q at *
    go_upto_region 5 with fail
    clear k2 z2
    generalize w2.setCell ⟨g, j * 4 + 2, none⟩ (.int .i64 (q + 1)) = w3 at *
    go_wp2
    go_ret
    exact ⟨by rw [HR.out.1, ← HXF.out]; rfl, by rw [HR.out.2]; exact HF3.out.1, HF3.out.2⟩
set_option maxRecDepth 100000 in
set_option maxHeartbeats 4000000 in
theorem link_r {w : World} {B c n : Nat} {rs : List Rt} {S : Bk} (h : RA w B c rs S) (ho : Ok S n) (hn : n ≤ 1048576) (hBw : B ≤ w.heap.size) (i p t : Int) :
    Calls Try.prog 26 #[.pointer (some ⟨c, 0, none⟩), .int .i64 i, .int .i64 p, .int .i64 t] w fun e w' => e = .returned (.int .i64 (linkR S i p t)) ∧ RA w' B c rs (linkB S i p t) ∧ Gm B pR false w w' := by
  have C : ∀ j w', Fr [] w w' → Calls Try.prog 38 #[.pointer (some ⟨c, 0, none⟩), .int .i64 j] w' fun e w2 => e = .returned (.bool (heldB S j)) ∧ Fr [] w' w2 := fun j w' f => held_r (h.fr0 f) ho j
  have F0 : Fr [] w w := Fr.refl _ _
  have HC : Hid (RA w B c rs S ∧ B ≤ w.heap.size ∧ S.notes.length ≤ 1048576) := ⟨h, hBw, by have := ho.nn; omega⟩
  have hno : heldB S i = false ∨ heldB S t = false ∨ p < 0 → linkB S i p t = S := fun hh => by
    unfold linkB
    rw [if_neg]
    rintro hx
    simp only [Bool.and_eq_true, decide_eq_true_eq] at hx
    rcases hh with hh | hh | hh
    · rw [hh] at hx; exact absurd hx.1.1 (by simp)
    · rw [hh] at hx; exact absurd hx.1.2 (by simp)
    · omega
  clear h ho hn hBw
  cases e1 : heldB S i with
  | false =>
    have HR : Hid (linkR S i p t = 3 ∧ linkB S i p t = S) := ⟨by unfold linkR; simp [e1], hno (.inl e1)⟩
    have Ci := C i; rw [e1] at Ci
    clear C e1 hno
    go_enter Try.func26, Try.ntmps26
    go_wp2_with (go_at_call 38; refine (Ci _ (by assumption)).mono ?_; rintro e w1 ⟨rfl, f1⟩)
    go_ret
    exact ⟨by rw [HR.out.1]; rfl, by rw [HR.out.2]; exact HC.out.1.fr0 f1, Gm.ofFr0 f1⟩
  | true =>
    have Ci := C i; rw [e1] at Ci
    cases e2 : heldB S t with
    | false =>
      have HR : Hid (linkR S i p t = 3 ∧ linkB S i p t = S) := ⟨by unfold linkR; simp [e2], hno (.inr (.inl e2))⟩
      have Ct := C t; rw [e2] at Ct
      clear C e1 e2 hno
      go_enter Try.func26, Try.ntmps26
      go_wp2_with (first
        | (go_at_call 38; refine (Ci _ (by assumption)).mono ?_; rintro e w1 ⟨rfl, f1⟩; clear Ci)
        | (go_at_call 38; refine (Ct _ (by assumption)).mono ?_; rintro e w2 ⟨rfl, f2⟩; clear Ct))
      go_ret
      exact ⟨by rw [HR.out.1]; rfl, by rw [HR.out.2]; exact HC.out.1.fr0 (f1.trans f2), Gm.ofFr0 (f1.trans f2)⟩
    | true =>
      have Ct := C t; rw [e2] at Ct
      by_cases hneg : p < 0
      · have HR : Hid (linkR S i p t = 1 ∧ linkB S i p t = S) := ⟨by unfold linkR; simp [e1, e2, hneg], hno (.inr (.inr hneg))⟩
        clear C e1 e2 hno
        go_enter Try.func26, Try.ntmps26
        go_wp2_with (first
          | (go_at_call 38; refine (Ci _ (by assumption)).mono ?_; rintro e w1 ⟨rfl, f1⟩; clear Ci)
          | (go_at_call 38; refine (Ct _ (by assumption)).mono ?_; rintro e w2 ⟨rfl, f2⟩; clear Ct))
        go_ret
        exact ⟨by rw [HR.out.1]; rfl, by rw [HR.out.2]; exact HC.out.1.fr0 (f1.trans f2), Gm.ofFr0 (f1.trans f2)⟩
      · have HR : Hid (linkR S i p t = 0 ∧ linkB S i p t = { S with notes := updN S.notes i p (linkU t) }) := by
          refine ⟨?_, ?_⟩
          · unfold linkR; simp [e1, e2, hneg]
          · unfold linkB; rw [if_pos]; simp only [e1, e2, Bool.and_self, Bool.true_and, decide_eq_true_eq]; omega
        clear C e1 e2 hno
        go_enter Try.func26, Try.ntmps26
        go_upto_region 5 with (first
          | (go_at_call 38; refine (Ci _ (by assumption)).mono ?_; rintro e w1 ⟨rfl, f1⟩; clear Ci)
          | (go_at_call 38; refine (Ct _ (by assumption)).mono ?_; rintro e w2 ⟨rfl, f2⟩; clear Ct))
        have HF : Hid (Fr [] w w2) := f1.trans f2
        have habs := HC.out.1.abs
        obtain ⟨rv, nv, pa, pcap, pf, used, hp, hpk, hus⟩ := (HC.out.1.fr0 HF.out).ex
        have CN := note_any hp (Nat.le_trans HC.out.2.1 HF.out.size) HC.out.2.2 i p
        have HPK : Hid (pf.drop used = S.pk ∧ used ≤ pf.length ∧ rs.map absR = S.rows) := ⟨hpk, hus, habs⟩
        clear hp hpk hus habs f1 f2 F0
        go_upto_region 6 with (go_at_call 39; refine CN.mono ?_; rintro e w3 ⟨g, j, rfl, hq⟩; have HQ : Hid (NoteQ B c rv S.lim pa pcap pf used S.last S.top rs S.notes i p w2 w3 g j) := hq; clear hq CN)
        obtain ⟨ns', cap, x, hP2, hx, hxe, hu, hg2⟩ := HQ.out
        have k2 : w3.cell? ⟨g, j * 4 + 3, none⟩ = some (.int .i64 x.to) := rowN_at hP2.notes hx 3 _ rfl
        obtain ⟨_, cur, hgb⟩ := own_block hP2.notes
        have z2 : w3.frozen? ⟨g, j * 4 + 3, none⟩ = false := frz hgb
        obtain ⟨hP3, hg3⟩ := hP2.setNote hx 3 (by decide) (.int .i64 t) (y := linkU t x) rfl
        rw [← hu (linkU t)] at hP3
        have hlen2 : (updN S.notes i p (linkU t)).length = ns'.length := by rw [hu (linkU t), List.length_set]
        rw [← hlen2] at hP3
        have HF3 : Hid (RA (w3.setCell ⟨g, j * 4 + 3, none⟩ (.int .i64 t)) B c rs { S with notes := updN S.notes i p (linkU t) } ∧ Gm B pR false w (w3.setCell ⟨g, j * 4 + 3, none⟩ (.int .i64 t))) := ⟨⟨⟨_, _, _, _, _, _, hP3, HPK.out.1, HPK.out.2.1⟩, HPK.out.2.2⟩, ((Gm.ofFr0 HF.out).trans hg2).trans hg3⟩
        clear hP2 hx hxe hu hg2 hgb hP3 hg3 hlen2 HQ HF HC HPK
        generalize x.to = xo at *
        go_wp2
        go_ret
        exact ⟨by rw [HR.out.1]; rfl, by rw [HR.out.2]; exact HF3.out.1, HF3.out.2⟩
end Go.Proofs.Ytnhjplfdfbbihaa
