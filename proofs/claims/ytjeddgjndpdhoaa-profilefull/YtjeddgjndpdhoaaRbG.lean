/-
  The document's Hit; conditions: the book lies as told and is as a book must be, keys are numbers of 64 bits.
-/
import Derived.Test.YtjeddgjndpdhoaaRbF
namespace Go.Proofs.Ytjeddgjndpdhoaa
open Go.RowKit Go.Shelf Go.Maps Go.ChangeShapes
set_option linter.unusedVariables false
set_option linter.unusedSimpArgs false

theorem put_at {L : List Rw} {i : Nat} {r q : Rw} (h : L[i]? = some r) : (L.set i q)[i]? = some q := by
  rw [List.getElem?_set_self (List.getElem?_eq_some_iff.1 h).1]
theorem RX.cell0 {B : Nat} {w : World} {rb : Nat} {S : Bk} {g c : Nat} {so : Value} (h : RX B w rb S g c so) {N : Nat} (hN : S.L.length = N) : w.cell? ⟨rb, 0, none⟩ = some (.slice (some ⟨g, 0, none⟩) N c) := by
  rw [← hN]
  exact at_cells h.blk 0 rfl
set_option maxRecDepth 100000 in
set_option maxHeartbeats 4000000 in
theorem rhit_any {B : Nat} {w : World} {rb : Nat} {S : Bk} (h : RBk B w rb S) (hB : B ≤ w.heap.size) (hok : Ok S) (hO : S.O.length ≤ 100000) (hw : ∀ x ∈ S.O, kw x) {k : Ky} (hk : kw k) : Calls Try.prog 17 #[.pointer (some ⟨rb, 0, none⟩), .agg (kc k)] w fun e w' => e = .returned (.bool (hitB S k).2) ∧ Gr B p64 [rb] w w' ∧ RBk B w' rb (hitB S k).1 := by
  have A0 : Hid (Fr [] w (w.alloc (.cells (kc k) 28))) := (Fr.refl [] w).alloc _
  have KB0 := heap_alloc_new w (.cells (kc k) 28)
  have R0 : Hid (RBk B (w.alloc (.cells (kc k) 28)) rb S) := h.fr0 A0.out
  have CB := rbanned_any R0.out hw (by omega) hk
  have HRL : Hid (rb < w.heap.size) := by obtain ⟨sv, so, hb, _⟩ := h.ex; exact (Array.getElem?_eq_some_iff.1 hb).1
  have HB : Hid (B ≤ w.heap.size) := hB
  have HK : Hid (kw k) := hk
  have HOK : Hid (Ok S) := hok
  clear h hB hok hO hw hk
  by_cases hm : k ∈ S.O
  · rw [decide_eq_true hm] at CB
    have HE : Hid (hitB S k = (S, false)) := by show hitB S k = (S, false); unfold hitB; rw [if_pos hm]
    clear hm
    go_enter Try.func17, Try.ntmps17
    go_wp2_with (refine wpList_load28 rfl (.tmp 3) rfl w.heap.size 0 rfl k (range_box KB0) ?_)
    refine CB.mono ?_
    rintro e W ⟨rfl, f⟩
    have HF : Hid (Gr B p64 [rb] w W ∧ RBk B W rb S) := ⟨Gr.ofFr (A0.out.trans f) (by simp), R0.out.fr0 f⟩
    clear f CB KB0
    go_wp2
    go_ret
    exact ⟨by (rw [HE.out]; try rfl), by (rw [HE.out]; exact HF.out)⟩
  · rw [decide_eq_false hm] at CB
    have HNO : Hid (k ∉ S.O) := hm
    clear hm
    cases hh : hasL S.L k with
    | true =>
      obtain ⟨i, r, hi, hrk, hf, hrow⟩ := fnd_has HOK.out.nd hh
      have WAY : Hid (Way S S k i r.n r.s) := way_has HOK.out HNO.out hi hrk hrow
      have HFN : Hid (fnd S.L k = i) := hf
      have hi0 : ¬ ((i : Int) < 0) := by omega
      clear hh hf hrow
      go_enter Try.func17, Try.ntmps17
      go_wp2_with (refine wpList_load28 rfl (.tmp 3) rfl w.heap.size 0 rfl k (range_box KB0) ?_)
      refine CB.mono ?_
      rintro e W ⟨rfl, f⟩
      have F1 : Hid (Fr [] w W) := A0.out.trans f
      have KW : Hid (W.heap[w.heap.size]? = some (.cells (kc k) 28 (0, 0))) := (f.block _ (Array.getElem?_eq_some_iff.1 KB0).1 (by simp)).trans KB0
      have RW : Hid (RBk B W rb S) := R0.out.fr0 f
      have CF := find_any RW.out HOK.out.kw (by have := HOK.out.len; omega) HK.out
      rw [HFN.out] at CF
      clear f CB KB0 A0 R0 HFN
      go_wp2_with (refine wpList_load28 rfl (.tmp 3) rfl w.heap.size 0 rfl k (range_box KW.out) ?_)
      refine CF.mono ?_
      rintro e X ⟨rfl, f⟩
      have FXX : Hid (Gr B p64 [rb] w X) := Gr.ofFr (F1.out.trans f) (by simp)
      obtain ⟨g, c, so, hx⟩ := (RW.out.fr0 f).rx hi
      have RXX : Hid (RX B X rb S g c so) := hx
      obtain ⟨S1, hS1⟩ : ∃ S1, S1 = S := ⟨_, rfl⟩
      have WAY1 : Hid (Way S S1 k i r.n r.s) := by rw [hS1]; exact WAY.out
      rw [← hS1] at RXX
      clear WAY
      have WAY := WAY1
      clear WAY1 hS1
      obtain ⟨N, hN⟩ : ∃ N, N = S1.L.length := ⟨_, rfl⟩
      have HNE : Hid (S1.L.length = N) := hN.symm
      generalize r.n = c0 at *
      generalize r.s = s0 at *
      clear f CF hN hx hi hrk F1 KW RW
      have hlt : i < S1.L.length := (List.getElem?_eq_some_iff.1 WAY.out.at_).1
      have HNL : Hid (S1.L.length = N) := HNE
      have hp : (i : Int) < ((N : Nat) : Int) := by have := HNL.out; omega
      have hN3 : ((N : Nat) : Int) ≤ 100000 := by have := WAY.out.len; have := HNL.out; omega
      have c0a : X.cell? ⟨rb, 0, none⟩ = some (.slice (some ⟨g, 0, none⟩) (N) c) := by rw [← HNL.out]; exact at_cells RXX.out.blk 0 rfl
      have c1a : X.cell? ⟨g, i * 11 + 10, none⟩ = some (.int .i64 c0) := RXX.out.at10 WAY.out.at_
      have fza : X.frozen? ⟨g, i * 11 + 10, none⟩ = false := by obtain ⟨_, cur, hg⟩ := RXX.out.ty; exact frozen4 hg _
      have hw1 : c0 + 1 ≤ 9223372036854775807 := by have := WAY.out.c; omega
      have hw0 : 0 ≤ c0 := WAY.out.c.1
      obtain ⟨Y, hY⟩ : ∃ Y, Y = X.setCell ⟨g, i * 11 + 10, none⟩ (.int .i64 (c0 + 1)) := ⟨_, rfl⟩
      have RY : Hid (RX B Y rb { S1 with L := S1.L.set i ⟨k, c0 + 1, s0⟩ } g c so) := by rw [hY]; exact (RXX.out.put WAY.out.at_ (c0 + 1)).1
      have GY : Hid (Gr B p64 [rb] w Y) := by rw [hY]; exact FXX.out.trans (RXX.out.put WAY.out.at_ (c0 + 1)).2
      have HY : Hid (Y = X.setCell ⟨g, i * 11 + 10, none⟩ (.int .i64 (c0 + 1))) := hY
      clear hY RXX FXX hlt
      go_wp2_with fail
      rw [← HY.out]
      clear HY c0a c1a fza
      refine reg17c (rb := rb) (g := g) (N := N) (c := c) (p := i) (a := c0 + 1) (b := S.thr) ?_ ?_ ?_ hp hN3 ?_
      · intro w' f; exact f.cell1 (RY.out.at10 (put_at WAY.out.at_)) (by simp)
      · intro w' f; exact f.cell1 (RY.out.cell0 (by show (S1.L.set _ _).length = _; rw [List.length_set]; exact HNL.out)) (by simp)
      · intro w' f; exact f.cell1 (by rw [← WAY.out.thr]; exact at_cells RY.out.blk 2 rfl) (by simp)
      · intro Z fz
        have RZ : Hid (RX B Z rb { S1 with L := S1.L.set i ⟨k, c0 + 1, s0⟩ } g c so) := RY.out.fr0 fz
        have GZ : Hid (Gr B p64 [rb] w Z) := GY.out.trans (Gr.ofFr fz (by simp))
        clear fz RY GY
        by_cases hf : c0 + 1 < S.thr
        · have HE : Hid (hitB S k = ({ S1 with L := S1.L.set i ⟨k, c0 + 1, s0⟩ }, false)) := WAY.out.less hf
          have hd : decide (c0 + 1 < S.thr) = true := decide_eq_true hf
          rw [hd]
          clear hd hf
          go_wp2
          go_ret
          exact ⟨by (rw [HE.out]; try rfl), GZ.out, by (rw [HE.out]; exact RZ.out.book)⟩
        · have HE : Hid (hitB S k = ({ S1 with L := (S1.L.set i ⟨k, c0 + 1, s0⟩).set i ⟨k, 0, s0⟩ }, true)) := WAY.out.full hf
          have hd : decide (c0 + 1 < S.thr) = false := decide_eq_false hf
          rw [hd]
          have z0 : Z.cell? ⟨rb, 0, none⟩ = some (.slice (some ⟨g, 0, none⟩) (N) c) := RZ.out.cell0 (by show (S1.L.set _ _).length = _; rw [List.length_set]; exact HNL.out)
          have z1 : Z.cell? ⟨g, i * 11 + 10, none⟩ = some (.int .i64 (c0 + 1)) := RZ.out.at10 (put_at WAY.out.at_)
          have zf : Z.frozen? ⟨g, i * 11 + 10, none⟩ = false := by obtain ⟨_, cur, hg⟩ := RZ.out.ty; exact frozen4 hg _
          have HV : Hid (RX B (Z.setCell ⟨g, i * 11 + 10, none⟩ (.int .i64 0)) rb { S1 with L := (S1.L.set i ⟨k, c0 + 1, s0⟩).set i ⟨k, 0, s0⟩ } g c so ∧ Gr B p64 [rb] w (Z.setCell ⟨g, i * 11 + 10, none⟩ (.int .i64 0))) :=
            ⟨(RZ.out.put (put_at WAY.out.at_) 0).1, GZ.out.trans (RZ.out.put (put_at WAY.out.at_) 0).2⟩
          clear hd hf
          go_wp2
          go_ret
          exact ⟨by (rw [HE.out]; try rfl), HV.out.2, by (rw [HE.out]; exact HV.out.1.book)⟩
    | false =>
      have HHN : Hid (hasL S.L k = false) := hh
      have HFN : Hid (fnd S.L k = -1) := fnd_hasnt hh
      clear hh
      have HEL : Hid (¬ (1000 ≤ S.L.length) → (entB S).L = S.L) := fun hq => by unfold entB; simp only; rw [if_neg hq]
      have HEF : Hid (1000 ≤ S.L.length → (entB S).L = S.L.eraseIdx (lsI S.L S.L.length)) := fun hq => by unfold entB; simp only; rw [if_pos hq]
      obtain ⟨sv0, so0, hb0, hr0, _⟩ := R0.out.ex
      obtain ⟨a0, cc0, rfl, _⟩ := own_slice hr0
      obtain ⟨N, hN⟩ : ∃ N, N = S.L.length := ⟨_, rfl⟩
      rw [← hN] at hb0
      have HB0 : Hid ((w.alloc (.cells (kc k) 28)).heap[rb]? = some (.cells #[.slice a0 N cc0, so0, .int .i64 S.thr] 46 (0, 0))) := hb0
      have HN : Hid (N = S.L.length) := hN
      have hN1 : (N : Int) ≤ 1000 := by have := HOK.out.len; omega
      clear hb0 hr0 hN
      go_enter Try.func17, Try.ntmps17
      go_wp2_with (refine wpList_load28 rfl (.tmp 3) rfl w.heap.size 0 rfl k (range_box KB0) ?_)
      refine CB.mono ?_
      rintro e W ⟨rfl, f⟩
      have F1 : Hid (Fr [] w W) := A0.out.trans f
      have KW : Hid (W.heap[w.heap.size]? = some (.cells (kc k) 28 (0, 0))) := (f.block _ (Array.getElem?_eq_some_iff.1 KB0).1 (by simp)).trans KB0
      have RW : Hid (RBk B W rb S) := R0.out.fr0 f
      have BW : Hid (W.heap[rb]? = some (.cells #[.slice a0 N cc0, so0, .int .i64 S.thr] 46 (0, 0))) := (f.block _ (Array.getElem?_eq_some_iff.1 HB0.out).1 (by simp)).trans HB0.out
      have CF := find_any RW.out HOK.out.kw (by have := HOK.out.len; omega) HK.out
      rw [HFN.out] at CF
      clear f CB KB0 A0 R0 HFN HB0
      go_wp2_with (refine wpList_load28 rfl (.tmp 3) rfl w.heap.size 0 rfl k (range_box KW.out) ?_)
      refine CF.mono ?_
      rintro e V ⟨rfl, f⟩
      have FV : Hid (Fr [] w V) := F1.out.trans f
      have KV : Hid (V.heap[w.heap.size]? = some (.cells (kc k) 28 (0, 0))) := (f.block _ (Array.getElem?_eq_some_iff.1 KW.out).1 (by simp)).trans KW.out
      have RV : Hid (RBk B V rb S) := RW.out.fr0 f
      have BV : Hid (V.heap[rb]? = some (.cells #[.slice a0 N cc0, so0, .int .i64 S.thr] 46 (0, 0))) := (f.block _ (Array.getElem?_eq_some_iff.1 BW.out).1 (by simp)).trans BW.out
      have v0 : V.cell? ⟨rb, 0, none⟩ = some (.slice a0 N cc0) := at_cells BV.out 0 rfl
      clear f CF F1 KW RW BW
      by_cases hq : 1000 ≤ N
      · have hqI : (1000 : Int) ≤ N := by omega
        have hqJ : ¬ ((N : Int) < 1000) := by omega
        have HQ : Hid (1000 ≤ N) := hq
        have HNE : Hid (S.L ≠ []) := fun e => by have := HN.out; rw [e] at this; simp at this; omega
        obtain ⟨g, c, so, hx⟩ := RV.out.rx (List.getElem?_eq_getElem (by rw [← HN.out]; omega : 0 < S.L.length))
        have RXV : Hid (RX B V rb S g c so) := hx
        have e0 := at_cells hx.blk 0 rfl
        rw [v0, ← HN.out] at e0
        injection e0 with e0
        injection e0 with e1 e2 e3
        subst e1 e3
        clear hq hx e2
        go_wp2_with fail
        clear v0
        go_loopw [6, 7, 8, 28] (fun a _ _ i wr => ∃ j p : Nat, j ≤ N ∧ i = .int .i64 j ∧ a = .int .i64 p ∧ Hid (p = lsI S.L j) ∧ Hid (Fr [] V wr)) (fun _ _ _ i _ => N - (intOf i).toNat)
        case atStart => exact ⟨0, 0, Nat.zero_le _, rfl, rfl, rfl, Fr.refl _ _⟩
        case round =>
          obtain ⟨j, p, hj, rfl, rfl, hP, hF⟩ := hrel
          by_cases hlt : j < N
          · have hx : S.L[j]? = some (S.L[j]'(by rw [← HN.out]; exact hlt)) := List.getElem?_eq_getElem _
            generalize S.L[j]'(by rw [← HN.out]; exact hlt) = r at hx
            obtain ⟨q, hq, hpl, _, _⟩ := lsI_min HNE.out j (by rw [← HN.out]; exact hj)
            have HSC : Hid (lsI S.L (j + 1) = if r.n < q.n then j else lsI S.L j) := lsI_succ hx hq
            rw [← hP.out] at hq hpl
            have HSP : Hid (lsI S.L (j + 1) = if r.n < q.n then j else p) := by rw [hP.out]; exact HSC.out
            have RXW := RXV.out.fr0 hF.out
            obtain ⟨g', c', e, hrg, _⟩ := own_at rc_len RXW.row hx
            injection e with e1 e2 e3
            injection e1 with e1
            injection e1 with e1
            subst e1 e3
            have HRg : Hid (wr.rangeAt g (j * 11) (rc r)) := hrg
            have hltI : (j : Int) < N := by omega
            have hp : (p : Int) < N := by rw [← HN.out] at hpl; omega
            obtain ⟨X, hX⟩ : ∃ X, X = wr.alloc (.cells (ra r) 64) := ⟨_, rfl⟩
            have zz := heap_alloc_new wr (.cells Z38 64)
            have HS : Hid ((wr.alloc (.cells Z38 64)).setRow wr.heap.size (ra r) = X) := by rw [hX]; exact World.setRow_alloc_new wr _ _ _
            have FX : Hid (Fr [] wr X) := by rw [hX]; exact (Fr.refl _ _).alloc _
            have XX : Hid (X.heap[wr.heap.size]? = some (.cells (ra r) 64 (0, 0))) := by rw [hX]; exact heap_alloc_new _ _
            have HQA : Hid (∀ w', Fr [] wr w' → w'.cell? ⟨g, p * 11 + 10, none⟩ = some (.int .i64 q.n)) := fun w' f => f.cell1 (RXW.at10 hq) (by simp)
            have HQB : Hid (∀ w', Fr [] wr w' → w'.cell? ⟨rb, 0, none⟩ = some (.slice (some ⟨g, 0, none⟩) N cc0)) := fun w' f => f.cell1 (by rw [HN.out]; exact at_cells RXW.blk 0 rfl) (by simp)
            unfold Z38 at zz HS
            clear hX hrg hx hq e2 HSC RXW hpl
            have w0 := HQB.out wr (Fr.refl _ _)
            go_wp2_with (first
              | refine wpList_load64 rfl (.tmp 31) rfl g (j * 11) rfl r HRg.out ?_
              | refine wpList_load64 rfl (.tmp 31) rfl g (0 + j * 11) rfl r (by rw [Nat.zero_add]; exact HRg.out) ?_
              | (refine wpList_store_row rfl 64 (.tmp 8) (.tmp 32) rfl wr.heap.size (ra r) rfl rfl 64 _ zz (by rw [info64, ra_size]) (by rw [ra_size]; rfl) (ra_one _) ?_; rw [HS.out]))
            refine reg17a (rb := rb) (nb := wr.heap.size) (g := g) (N := N) (c := cc0) (p := p) (a := r.n) (b := q.n) ?_ ?_ ?_ hp (by omega) ?_
            · intro w' f; exact f.cell1 (at_cells XX.out 10 (by simp [ra, rc, kc_size])) (by simp)
            · intro w' f; exact HQB.out w' (FX.out.trans f)
            · intro w' f; exact HQA.out w' (FX.out.trans f)
            · intro X2 f2
              have HF2 : Hid (Fr [] V X2) := hF.out.trans (FX.out.trans f2)
              clear f2 zz HS
              by_cases hc : r.n < q.n
              · have HJ : Hid (j = lsI S.L (j + 1)) := by rw [HSP.out, if_pos hc]; exact (rfl : j = j)
                rw [decide_eq_true hc]
                clear hc
                go_wp2
                go_roundw
                case rel => exact ⟨j + 1, j, hlt, by go_num, rfl, HJ, HF2⟩
                case measure => simp [intOf]; omega
              · have HJ : Hid (p = lsI S.L (j + 1)) := by rw [HSP.out, if_neg hc]; exact (rfl : p = p)
                rw [decide_eq_false hc]
                clear hc
                go_wp2
                go_roundw
                case rel => exact ⟨j + 1, p, hlt, by go_num, rfl, HJ, HF2⟩
                case measure => simp [intOf]; omega
          · have hjN : j = N := by omega
            subst hjN
            have FW : Hid (Fr [] w wr) := FV.out.trans hF.out
            have KW : Hid (wr.heap[w.heap.size]? = some (.cells (kc k) 28 (0, 0))) := (hF.out.block _ (Array.getElem?_eq_some_iff.1 KV.out).1 (by simp)).trans KV.out
            have HPL : Hid (p < S.L.length ∧ p = lsI S.L S.L.length) := by
              obtain ⟨q, hq, hpl, _, _⟩ := lsI_min HNE.out S.L.length (Nat.le_refl _)
              rw [← HN.out, ← hP.out] at hpl
              exact ⟨by rw [← HN.out]; exact hpl, by rw [← HN.out]; exact hP.out⟩
            have CD := drop_any (RV.out.fr0 hF.out) (Nat.le_trans HB.out FW.out.size) (by have := HOK.out.len; omega) HPL.out.1
            clear hlt hF
            go_wp2_with fail
            refine CD.mono ?_
            rintro e V1 ⟨rfl, f, r1, _⟩
            obtain ⟨S2, hS2⟩ : ∃ S2 : Bk, S2 = { S with L := S.L.eraseIdx p } := ⟨_, rfl⟩
            rw [← hS2] at r1
            have R2 : Hid (RBk B V1 rb S2) := r1
            have K2 : Hid (V1.heap[w.heap.size]? = some (.cells (kc k) 28 (0, 0))) := (f.block _ (Array.getElem?_eq_some_iff.1 KW.out).1 (by have := HRL.out; simp; omega)).trans KW.out
            have G2 : Hid (Gr B p64 [rb] w V1) := (Gr.ofFr FW.out (by simp)).trans (Gr.ofFr f (by simp))
            have S2L : Hid (S2.L = (entB S).L) := by rw [hS2, HEF.out (by rw [← HN.out]; exact HQ.out), ← HPL.out.2]; exact (rfl : S.L.eraseIdx p = _)
            have S2T : Hid (S2.thr = S.thr) := by rw [hS2]; exact (rfl : S.thr = _)
            have S2O : Hid (S2.O = S.O) := by rw [hS2]; exact (rfl : S.O = _)
            clear f r1 CD hS2 FW KW HPL
            go_wp2_with fail
            obtain ⟨sv, so, hb, hr, ho⟩ := R2.out.ex
            obtain ⟨fa, fc, rfl, hnil⟩ := own_slice hr
            obtain ⟨x0, x1, x2, x3, x4, x5, x6, x7, x8, x9, hkc⟩ := kc_ten k
            have hB1 : B ≤ V1.heap.size := Nat.le_trans HB.out G2.out.size
            have hne := RBk.ne46 hb hr (by decide)
            have hrb : rb ∉ (Value.slice fa S2.L.length fc).ownBlock.toList := fun hq => by simp only [Option.mem_toList] at hq; exact hne _ hq rfl
            have hkb : ∀ q, (Value.slice fa S2.L.length fc).ownBlock = some q → q ≠ w.heap.size := fun q hq e => by
              obtain ⟨_, cur, hc⟩ := own_type hr hq
              rw [e, K2.out] at hc
              cases hc
            refine reg17b (B := B) (xs := S2.L.flatMap rc) (fn := S2.L.length) (fa := fa) (fc := fc) (rb := rb) (kb := w.heap.size) (x0 := x0) (x1 := x1) (x2 := x2) (x3 := x3) (x4 := x4) (x5 := x5) (x6 := x6) (x7 := x7) (x8 := x8) (x9 := x9) hr hB1 ?_ ?_ ?_ ?_ (by rw [S2L.out]; have := (ok_ent HOK.out).2.1; omega) ?_
            · intro w' f; exact f.cell1 (at_cells hb 0 rfl) (by simp)
            · intro w' f; exact f.cell1 (at_cells hb 0 rfl) hrb
            · intro w' f; exact frozen4 ((f.block _ (Array.getElem?_eq_some_iff.1 hb).1 hrb).trans hb) 0
            · intro w' f
              have hq := range_box ((f.block _ (Array.getElem?_eq_some_iff.1 K2.out).1 (fun hq => by
                rcases List.mem_cons.1 hq with hq | hq
                · have := HRL.out; omega
                · simp only [Option.mem_toList] at hq; exact hkb _ hq rfl)).trans K2.out)
              rw [hkc] at hq
              exact hq
            · intro n49 n50 n51 n52 n53 n54 n55 n56 n57 n58 n59 X2 fa' c f2 o2 l2
              obtain ⟨g, hga⟩ : ∃ g, fa' = some ⟨g, 0, none⟩ := by
                rcases o2.2 with ⟨_, e2⟩ | ⟨g', cap, cur, e1, _⟩
                · omega
                · cases e1; exact ⟨_, rfl⟩
              subst hga
              obtain ⟨S1, hS1⟩ : ∃ S1 : Bk, S1 = { entB S with L := (entB S).L ++ [⟨k, 0, S.ent + 1⟩] } := ⟨_, rfl⟩
              obtain ⟨i, hi⟩ : ∃ i, i = S2.L.length := ⟨_, rfl⟩
              have WAY : Hid (Way S S1 k i 0 (S.ent + 1)) := by rw [hS1, hi, S2L.out]; exact way_no HOK.out HNO.out HHN.out
              have RXX : Hid (RX B (X2.setCell ⟨rb, 0, none⟩ (.slice (some ⟨g, 0, none⟩) (i + 1) c)) rb S1 g c so) := by
                have b2 := (f2.block _ (Array.getElem?_eq_some_iff.1 hb).1 hrb).trans hb
                have g3 : Fr [rb] X2 (X2.setCell ⟨rb, 0, none⟩ (.slice (some ⟨g, 0, none⟩) (i + 1) c)) := (Fr.refl _ _).setCell (.inl (by simp)) _
                have o3 : X2.ownsRow B 28 10 so S2.O.length (S2.O.flatMap kcl) := own_fr ho f2 (fun q hq hm => by
                  simp only [Option.mem_toList] at hm
                  obtain ⟨_, c1, h1⟩ := own_type hr hm
                  obtain ⟨_, c2, h2⟩ := own_type ho hq
                  rw [h1] at h2
                  cases h2)
                have hl1 : S1.L.length = i + 1 := by rw [hS1, hi, S2L.out]; simp
                have ht1 : S1.thr = S2.thr := by rw [hS1, S2T.out]; rfl
                have ho1 : S1.O = S2.O := by rw [hS1, S2O.out]; rfl
                have hf1 : S1.L.flatMap rc = S2.L.flatMap rc ++ [.int .i64 x0, .int .i64 x1, .int .i64 x2, .int .i64 x3, .int .i64 x4, .int .i64 x5, .int .i64 x6, .int .i64 x7, .int .i64 x8, .int .i64 x9, .int .i64 0] := by rw [hS1, S2L.out]; simp [List.flatMap_append, rc, hkc]
                refine ⟨?_, ?_, ?_⟩
                · rw [hl1, ht1]; exact set_at30 b2
                · rw [hl1, hf1]
                  rw [← hi] at o2
                  refine own_fr o2 g3 (fun q hq hm => ?_)
                  simp at hm
                  exact RBk.ne46 b2 o2 (by decide) q hq hm
                · rw [ho1]
                  refine own_fr o3 g3 (fun q hq hm => ?_)
                  simp at hm
                  exact RBk.ne46 b2 o3 (by decide) q hq hm
              have FXX : Hid (Gr B p64 [rb] w (X2.setCell ⟨rb, 0, none⟩ (.slice (some ⟨g, 0, none⟩) (i + 1) c))) := by
                refine G2.out.trans ((Gr.ofFr f2 (fun q hq => ?_)).trans (Gr.ofFr (T := [rb]) ((Fr.refl [rb] X2).setCell (p := ⟨rb, 0, none⟩) (.inl (by simp)) _) (by simp)))
                simp only [Option.mem_toList] at hq
                obtain ⟨h1, c1, h2⟩ := own_type hr hq
                exact .inr (.inr ⟨h1, _, _, _, h2, rfl⟩)
              have HL1 : Hid (S1.L.length = i + 1) := by show S1.L.length = i + 1; rw [hS1, hi, S2L.out]; simp
              rw [← hi]
              generalize X2.setCell ⟨rb, 0, none⟩ (.slice (some ⟨g, 0, none⟩) (i + 1) c) = X at *
              obtain ⟨c0, hc0⟩ : ∃ c0 : Int, c0 = 0 := ⟨_, rfl⟩
              rw [← hc0] at WAY
              generalize S.ent + 1 = s0 at *
              have hi2 : (i : Int) ≤ 1000 := by have := WAY.out.len; have := HL1.out; omega
              clear hc0 hi hS1 o2 f2 l2 hkb hrb hne hB1 hb hr ho hnil R2 K2 G2 S2L S2T S2O
              have hlt : i < S1.L.length := (List.getElem?_eq_some_iff.1 WAY.out.at_).1
              have HNL : Hid (S1.L.length = i + 1) := HL1
              have hp : (i : Int) < ((i + 1 : Nat) : Int) := by have := HNL.out; omega
              have hN3 : ((i + 1 : Nat) : Int) ≤ 100000 := by have := WAY.out.len; have := HNL.out; omega
              have c0a : X.cell? ⟨rb, 0, none⟩ = some (.slice (some ⟨g, 0, none⟩) (i + 1) c) := by rw [← HNL.out]; exact at_cells RXX.out.blk 0 rfl
              have c1a : X.cell? ⟨g, i * 11 + 10, none⟩ = some (.int .i64 c0) := RXX.out.at10 WAY.out.at_
              have fza : X.frozen? ⟨g, i * 11 + 10, none⟩ = false := by obtain ⟨_, cur, hg⟩ := RXX.out.ty; exact frozen4 hg _
              have hw1 : c0 + 1 ≤ 9223372036854775807 := by have := WAY.out.c; omega
              have hw0 : 0 ≤ c0 := WAY.out.c.1
              obtain ⟨Y, hY⟩ : ∃ Y, Y = X.setCell ⟨g, i * 11 + 10, none⟩ (.int .i64 (c0 + 1)) := ⟨_, rfl⟩
              have RY : Hid (RX B Y rb { S1 with L := S1.L.set i ⟨k, c0 + 1, s0⟩ } g c so) := by rw [hY]; exact (RXX.out.put WAY.out.at_ (c0 + 1)).1
              have GY : Hid (Gr B p64 [rb] w Y) := by rw [hY]; exact FXX.out.trans (RXX.out.put WAY.out.at_ (c0 + 1)).2
              have HY : Hid (Y = X.setCell ⟨g, i * 11 + 10, none⟩ (.int .i64 (c0 + 1))) := hY
              clear hY RXX FXX hlt
              go_wp2_with fail
              rw [← HY.out]
              clear HY c0a c1a fza
              refine reg17c (rb := rb) (g := g) (N := i + 1) (c := c) (p := i) (a := c0 + 1) (b := S.thr) ?_ ?_ ?_ hp hN3 ?_
              · intro w' f; exact f.cell1 (RY.out.at10 (put_at WAY.out.at_)) (by simp)
              · intro w' f; exact f.cell1 (RY.out.cell0 (by show (S1.L.set _ _).length = _; rw [List.length_set]; exact HNL.out)) (by simp)
              · intro w' f; exact f.cell1 (by rw [← WAY.out.thr]; exact at_cells RY.out.blk 2 rfl) (by simp)
              · intro Z fz
                have RZ : Hid (RX B Z rb { S1 with L := S1.L.set i ⟨k, c0 + 1, s0⟩ } g c so) := RY.out.fr0 fz
                have GZ : Hid (Gr B p64 [rb] w Z) := GY.out.trans (Gr.ofFr fz (by simp))
                clear fz RY GY
                by_cases hf : c0 + 1 < S.thr
                · have HE : Hid (hitB S k = ({ S1 with L := S1.L.set i ⟨k, c0 + 1, s0⟩ }, false)) := WAY.out.less hf
                  have hd : decide (c0 + 1 < S.thr) = true := decide_eq_true hf
                  rw [hd]
                  clear hd hf
                  go_wp2
                  go_ret
                  exact ⟨by (rw [HE.out]; try rfl), GZ.out, by (rw [HE.out]; exact RZ.out.book)⟩
                · have HE : Hid (hitB S k = ({ S1 with L := (S1.L.set i ⟨k, c0 + 1, s0⟩).set i ⟨k, 0, s0⟩ }, true)) := WAY.out.full hf
                  have hd : decide (c0 + 1 < S.thr) = false := decide_eq_false hf
                  rw [hd]
                  have z0 : Z.cell? ⟨rb, 0, none⟩ = some (.slice (some ⟨g, 0, none⟩) (i + 1) c) := RZ.out.cell0 (by show (S1.L.set _ _).length = _; rw [List.length_set]; exact HNL.out)
                  have z1 : Z.cell? ⟨g, i * 11 + 10, none⟩ = some (.int .i64 (c0 + 1)) := RZ.out.at10 (put_at WAY.out.at_)
                  have zf : Z.frozen? ⟨g, i * 11 + 10, none⟩ = false := by obtain ⟨_, cur, hg⟩ := RZ.out.ty; exact frozen4 hg _
                  have HV : Hid (RX B (Z.setCell ⟨g, i * 11 + 10, none⟩ (.int .i64 0)) rb { S1 with L := (S1.L.set i ⟨k, c0 + 1, s0⟩).set i ⟨k, 0, s0⟩ } g c so ∧ Gr B p64 [rb] w (Z.setCell ⟨g, i * 11 + 10, none⟩ (.int .i64 0))) :=
                    ⟨(RZ.out.put (put_at WAY.out.at_) 0).1, GZ.out.trans (RZ.out.put (put_at WAY.out.at_) 0).2⟩
                  clear hd hf
                  go_wp2
                  go_ret
                  exact ⟨by (rw [HE.out]; try rfl), HV.out.2, by (rw [HE.out]; exact HV.out.1.book)⟩
      · have hqI : ¬ ((1000 : Int) ≤ N) := by omega
        have hqJ : (N : Int) < 1000 := by omega
        have R2 : Hid (RBk B V rb S) := RV
        have G2 : Hid (Gr B p64 [rb] w V) := Gr.ofFr FV.out (by simp)
        obtain ⟨S2, hS2⟩ : ∃ S2, S2 = S := ⟨_, rfl⟩
        rw [← hS2] at R2
        have K2 : Hid (V.heap[w.heap.size]? = some (.cells (kc k) 28 (0, 0))) := KV
        have S2L : Hid (S2.L = (entB S).L) := by rw [hS2, HEL.out (by rw [← HN.out]; exact hq)]; exact (rfl : S.L = _)
        have S2T : Hid (S2.thr = S.thr) := by rw [hS2]; exact (rfl : S.thr = _)
        have S2O : Hid (S2.O = S.O) := by rw [hS2]; exact (rfl : S.O = _)
        clear hq hS2 RV FV KV BV
        go_wp2_with fail
        clear v0
        obtain ⟨V1, hV1⟩ : ∃ V1, V1 = V := ⟨_, rfl⟩
        rw [← hV1] at R2 K2 G2 ⊢
        clear hV1
        obtain ⟨sv, so, hb, hr, ho⟩ := R2.out.ex
        obtain ⟨fa, fc, rfl, hnil⟩ := own_slice hr
        obtain ⟨x0, x1, x2, x3, x4, x5, x6, x7, x8, x9, hkc⟩ := kc_ten k
        have hB1 : B ≤ V1.heap.size := Nat.le_trans HB.out G2.out.size
        have hne := RBk.ne46 hb hr (by decide)
        have hrb : rb ∉ (Value.slice fa S2.L.length fc).ownBlock.toList := fun hq => by simp only [Option.mem_toList] at hq; exact hne _ hq rfl
        have hkb : ∀ q, (Value.slice fa S2.L.length fc).ownBlock = some q → q ≠ w.heap.size := fun q hq e => by
          obtain ⟨_, cur, hc⟩ := own_type hr hq
          rw [e, K2.out] at hc
          cases hc
        refine reg17b (B := B) (xs := S2.L.flatMap rc) (fn := S2.L.length) (fa := fa) (fc := fc) (rb := rb) (kb := w.heap.size) (x0 := x0) (x1 := x1) (x2 := x2) (x3 := x3) (x4 := x4) (x5 := x5) (x6 := x6) (x7 := x7) (x8 := x8) (x9 := x9) hr hB1 ?_ ?_ ?_ ?_ (by rw [S2L.out]; have := (ok_ent HOK.out).2.1; omega) ?_
        · intro w' f; exact f.cell1 (at_cells hb 0 rfl) (by simp)
        · intro w' f; exact f.cell1 (at_cells hb 0 rfl) hrb
        · intro w' f; exact frozen4 ((f.block _ (Array.getElem?_eq_some_iff.1 hb).1 hrb).trans hb) 0
        · intro w' f
          have hq := range_box ((f.block _ (Array.getElem?_eq_some_iff.1 K2.out).1 (fun hq => by
            rcases List.mem_cons.1 hq with hq | hq
            · have := HRL.out; omega
            · simp only [Option.mem_toList] at hq; exact hkb _ hq rfl)).trans K2.out)
          rw [hkc] at hq
          exact hq
        · intro n49 n50 n51 n52 n53 n54 n55 n56 n57 n58 n59 X2 fa' c f2 o2 l2
          obtain ⟨g, hga⟩ : ∃ g, fa' = some ⟨g, 0, none⟩ := by
            rcases o2.2 with ⟨_, e2⟩ | ⟨g', cap, cur, e1, _⟩
            · omega
            · cases e1; exact ⟨_, rfl⟩
          subst hga
          obtain ⟨S1, hS1⟩ : ∃ S1 : Bk, S1 = { entB S with L := (entB S).L ++ [⟨k, 0, S.ent + 1⟩] } := ⟨_, rfl⟩
          obtain ⟨i, hi⟩ : ∃ i, i = S2.L.length := ⟨_, rfl⟩
          have WAY : Hid (Way S S1 k i 0 (S.ent + 1)) := by rw [hS1, hi, S2L.out]; exact way_no HOK.out HNO.out HHN.out
          have RXX : Hid (RX B (X2.setCell ⟨rb, 0, none⟩ (.slice (some ⟨g, 0, none⟩) (i + 1) c)) rb S1 g c so) := by
            have b2 := (f2.block _ (Array.getElem?_eq_some_iff.1 hb).1 hrb).trans hb
            have g3 : Fr [rb] X2 (X2.setCell ⟨rb, 0, none⟩ (.slice (some ⟨g, 0, none⟩) (i + 1) c)) := (Fr.refl _ _).setCell (.inl (by simp)) _
            have o3 : X2.ownsRow B 28 10 so S2.O.length (S2.O.flatMap kcl) := own_fr ho f2 (fun q hq hm => by
              simp only [Option.mem_toList] at hm
              obtain ⟨_, c1, h1⟩ := own_type hr hm
              obtain ⟨_, c2, h2⟩ := own_type ho hq
              rw [h1] at h2
              cases h2)
            have hl1 : S1.L.length = i + 1 := by rw [hS1, hi, S2L.out]; simp
            have ht1 : S1.thr = S2.thr := by rw [hS1, S2T.out]; rfl
            have ho1 : S1.O = S2.O := by rw [hS1, S2O.out]; rfl
            have hf1 : S1.L.flatMap rc = S2.L.flatMap rc ++ [.int .i64 x0, .int .i64 x1, .int .i64 x2, .int .i64 x3, .int .i64 x4, .int .i64 x5, .int .i64 x6, .int .i64 x7, .int .i64 x8, .int .i64 x9, .int .i64 0] := by rw [hS1, S2L.out]; simp [List.flatMap_append, rc, hkc]
            refine ⟨?_, ?_, ?_⟩
            · rw [hl1, ht1]; exact set_at30 b2
            · rw [hl1, hf1]
              rw [← hi] at o2
              refine own_fr o2 g3 (fun q hq hm => ?_)
              simp at hm
              exact RBk.ne46 b2 o2 (by decide) q hq hm
            · rw [ho1]
              refine own_fr o3 g3 (fun q hq hm => ?_)
              simp at hm
              exact RBk.ne46 b2 o3 (by decide) q hq hm
          have FXX : Hid (Gr B p64 [rb] w (X2.setCell ⟨rb, 0, none⟩ (.slice (some ⟨g, 0, none⟩) (i + 1) c))) := by
            refine G2.out.trans ((Gr.ofFr f2 (fun q hq => ?_)).trans (Gr.ofFr (T := [rb]) ((Fr.refl [rb] X2).setCell (p := ⟨rb, 0, none⟩) (.inl (by simp)) _) (by simp)))
            simp only [Option.mem_toList] at hq
            obtain ⟨h1, c1, h2⟩ := own_type hr hq
            exact .inr (.inr ⟨h1, _, _, _, h2, rfl⟩)
          have HL1 : Hid (S1.L.length = i + 1) := by show S1.L.length = i + 1; rw [hS1, hi, S2L.out]; simp
          rw [← hi]
          generalize X2.setCell ⟨rb, 0, none⟩ (.slice (some ⟨g, 0, none⟩) (i + 1) c) = X at *
          obtain ⟨c0, hc0⟩ : ∃ c0 : Int, c0 = 0 := ⟨_, rfl⟩
          rw [← hc0] at WAY
          generalize S.ent + 1 = s0 at *
          have hi2 : (i : Int) ≤ 1000 := by have := WAY.out.len; have := HL1.out; omega
          clear hc0 hi hS1 o2 f2 l2 hkb hrb hne hB1 hb hr ho hnil R2 K2 G2 S2L S2T S2O
          have hlt : i < S1.L.length := (List.getElem?_eq_some_iff.1 WAY.out.at_).1
          have HNL : Hid (S1.L.length = i + 1) := HL1
          have hp : (i : Int) < ((i + 1 : Nat) : Int) := by have := HNL.out; omega
          have hN3 : ((i + 1 : Nat) : Int) ≤ 100000 := by have := WAY.out.len; have := HNL.out; omega
          have c0a : X.cell? ⟨rb, 0, none⟩ = some (.slice (some ⟨g, 0, none⟩) (i + 1) c) := by rw [← HNL.out]; exact at_cells RXX.out.blk 0 rfl
          have c1a : X.cell? ⟨g, i * 11 + 10, none⟩ = some (.int .i64 c0) := RXX.out.at10 WAY.out.at_
          have fza : X.frozen? ⟨g, i * 11 + 10, none⟩ = false := by obtain ⟨_, cur, hg⟩ := RXX.out.ty; exact frozen4 hg _
          have hw1 : c0 + 1 ≤ 9223372036854775807 := by have := WAY.out.c; omega
          have hw0 : 0 ≤ c0 := WAY.out.c.1
          obtain ⟨Y, hY⟩ : ∃ Y, Y = X.setCell ⟨g, i * 11 + 10, none⟩ (.int .i64 (c0 + 1)) := ⟨_, rfl⟩
          have RY : Hid (RX B Y rb { S1 with L := S1.L.set i ⟨k, c0 + 1, s0⟩ } g c so) := by rw [hY]; exact (RXX.out.put WAY.out.at_ (c0 + 1)).1
          have GY : Hid (Gr B p64 [rb] w Y) := by rw [hY]; exact FXX.out.trans (RXX.out.put WAY.out.at_ (c0 + 1)).2
          have HY : Hid (Y = X.setCell ⟨g, i * 11 + 10, none⟩ (.int .i64 (c0 + 1))) := hY
          clear hY RXX FXX hlt
          go_wp2_with fail
          rw [← HY.out]
          clear HY c0a c1a fza
          refine reg17c (rb := rb) (g := g) (N := i + 1) (c := c) (p := i) (a := c0 + 1) (b := S.thr) ?_ ?_ ?_ hp hN3 ?_
          · intro w' f; exact f.cell1 (RY.out.at10 (put_at WAY.out.at_)) (by simp)
          · intro w' f; exact f.cell1 (RY.out.cell0 (by show (S1.L.set _ _).length = _; rw [List.length_set]; exact HNL.out)) (by simp)
          · intro w' f; exact f.cell1 (by rw [← WAY.out.thr]; exact at_cells RY.out.blk 2 rfl) (by simp)
          · intro Z fz
            have RZ : Hid (RX B Z rb { S1 with L := S1.L.set i ⟨k, c0 + 1, s0⟩ } g c so) := RY.out.fr0 fz
            have GZ : Hid (Gr B p64 [rb] w Z) := GY.out.trans (Gr.ofFr fz (by simp))
            clear fz RY GY
            by_cases hf : c0 + 1 < S.thr
            · have HE : Hid (hitB S k = ({ S1 with L := S1.L.set i ⟨k, c0 + 1, s0⟩ }, false)) := WAY.out.less hf
              have hd : decide (c0 + 1 < S.thr) = true := decide_eq_true hf
              rw [hd]
              clear hd hf
              go_wp2
              go_ret
              exact ⟨by (rw [HE.out]; try rfl), GZ.out, by (rw [HE.out]; exact RZ.out.book)⟩
            · have HE : Hid (hitB S k = ({ S1 with L := (S1.L.set i ⟨k, c0 + 1, s0⟩).set i ⟨k, 0, s0⟩ }, true)) := WAY.out.full hf
              have hd : decide (c0 + 1 < S.thr) = false := decide_eq_false hf
              rw [hd]
              have z0 : Z.cell? ⟨rb, 0, none⟩ = some (.slice (some ⟨g, 0, none⟩) (i + 1) c) := RZ.out.cell0 (by show (S1.L.set _ _).length = _; rw [List.length_set]; exact HNL.out)
              have z1 : Z.cell? ⟨g, i * 11 + 10, none⟩ = some (.int .i64 (c0 + 1)) := RZ.out.at10 (put_at WAY.out.at_)
              have zf : Z.frozen? ⟨g, i * 11 + 10, none⟩ = false := by obtain ⟨_, cur, hg⟩ := RZ.out.ty; exact frozen4 hg _
              have HV : Hid (RX B (Z.setCell ⟨g, i * 11 + 10, none⟩ (.int .i64 0)) rb { S1 with L := (S1.L.set i ⟨k, c0 + 1, s0⟩).set i ⟨k, 0, s0⟩ } g c so ∧ Gr B p64 [rb] w (Z.setCell ⟨g, i * 11 + 10, none⟩ (.int .i64 0))) :=
                ⟨(RZ.out.put (put_at WAY.out.at_) 0).1, GZ.out.trans (RZ.out.put (put_at WAY.out.at_) 0).2⟩
              clear hd hf
              go_wp2
              go_ret
              exact ⟨by (rw [HE.out]; try rfl), HV.out.2, by (rw [HE.out]; exact HV.out.1.book)⟩
end Go.Proofs.Ytjeddgjndpdhoaa
