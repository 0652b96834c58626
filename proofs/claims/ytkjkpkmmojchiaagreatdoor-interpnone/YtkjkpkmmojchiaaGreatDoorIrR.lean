/-
  Which instructions a judge takes; conditions: the judge, the function and the instruction lie as told.
-/
import Derived.Test.YtkjkpkmmojchiaaGreatDoorIrQ
namespace Go.Proofs.YtkjkpkmmojchiaaGreatDoor
open Go.RowKit Go.Maps
set_option linter.unusedVariables false
set_option linter.unusedSimpArgs false

theorem all_at {α : Type} {p : α → Bool} {l : List α} {k : Nat} {x : α} (hx : l[k]? = some x) (h : p x = false) : l.all p = false := by
  rw [Bool.eq_false_iff]
  intro ha
  have := List.all_eq_true.1 ha x (List.mem_of_getElem? hx)
  rw [h] at this
  cases this
theorem all_take {α : Type} {p : α → Bool} {l : List α} {k : Nat} {x : α} (hx : l[k]? = some x) (h : (l.take k).all p = true) (hp : p x = true) : (l.take (k + 1)).all p = true := by
  rw [List.take_add_one, hx, List.all_append, h]
  simp [hp]
theorem rowN_eq {q : Nat} (h0 : 0 < rowN (q : Int)) : rowN (q : Int) = q ∧ 1 ≤ q ∧ q ≤ 28 := by
  unfold rowN at *
  split at h0
  · rename_i h; exact ⟨by rw [if_pos h]; simp, by omega, by omega⟩
  · omega

theorem JS.frS {P : JP} {n i : Int} {cnt : Nat} {seen : Int → Bool} {w w' : World} {S : List Nat} (h : JS P n i cnt seen w) (f : Fr S w w') (hS : ∀ k, k ∈ S → P.B ≤ k ∧ k ≠ P.jb ∧ k ≠ P.mb) : JS P n i cnt seen w' :=
  ⟨h.blk.fr f (fun hm => (hS _ hm).2.1 rfl), h.set.fr f (fun hm => (hS _ hm).2.2 rfl), h.fat.fr f (fun k hk => (hS k hk).1), h.ln, h.lo1, h.lo2, Nat.le_trans h.bw f.size, h.tb.fr f (fun k hk => Nat.le_trans h.lo (hS k hk).1), h.lo⟩
theorem idx_txt (l : List UInt8) (p : Nat) (h : p < l.length) : ((txt l)[p]'(by rw [txt_size]; exact h)) = l[p] := by simp [txt]; rfl

set_option maxRecDepth 100000 in
set_option maxHeartbeats 8000000 in
theorem instr_cps {P : JP} {n i : Int} {cnt : Nat} {seen : Int → Bool} {w : World} (h : JS P n i cnt seen w) (f : Fu) (x : In) (hx : InOk P.B w x) (hwk : wfI x.k) (hxl : x.l.length ≤ 8000000000000) (hcl : f.code.length ≤ 20000000000000) (hfl : P.len ≤ 20000000000000) (hm0 : 0 ≤ P.mg) (hm1 : P.mg ≤ 9223372036854775807) (hcnt : cnt ≤ 8000000000000) (R : Ending → World → Prop)
    (hy : insOk P.F P.mg f i x seen = true → ∀ w', JS P n i (nCnt x.op cnt) (nSeen x.op x.k seen) w' → Fr P.S w w' → R (.returned (.tuple #[])) w') (hn : insOk P.F P.mg f i x seen = false → ∀ w', Fr P.S w w' → R (thrown n i) w') :
    Calls Tryz.prog 166 #[.pointer (some ⟨P.jb, 0, none⟩), .agg f.arr, .agg x.arr] w R := by
  have F0 : Fr [] w ((w.alloc (.cells f.arr 87)).alloc (.cells x.arr 80)) := ((Fr.refl _ _).alloc _).alloc _
  have b1 := heap_alloc_new w (.cells f.arr 87)
  have bf := (((Fr.refl [] (w.alloc (.cells f.arr 87))).alloc (.cells x.arr 80)).block _ (Array.getElem?_eq_some_iff.1 b1).1 (by simp)).trans b1
  have bx : ((w.alloc (.cells f.arr 87)).alloc (.cells x.arr 80)).heap[w.heap.size + 1]? = some (.cells x.arr 80 (0, 0)) := blk2 w _ _
  have J0 := h.fr0 F0
  have hjb : P.jb < w.heap.size := (Array.getElem?_eq_some_iff.1 h.blk).1
  have hmb : P.mb < w.heap.size := by obtain ⟨es, c, hm⟩ := h.set.map; exact (Array.getElem?_eq_some_iff.1 hm).1
  have hsz : ((w.alloc (.cells f.arr 87)).alloc (.cells x.arr 80)).heap.size = w.heap.size + 2 := by simp
  have CRow := fun w' => row_any x.op w'
  by_cases hrow : 0 < rowN x.op
  · have HYES : Hid _ := hy
    have HNO : Hid _ := hn
    have X0 : InOk P.B ((w.alloc (.cells f.arr 87)).alloc (.cells x.arr 80)) x := hx.fr F0 (by simp)
    have HJ : Hid (JS P n i cnt seen ((w.alloc (.cells f.arr 87)).alloc (.cells x.arr 80))) := J0
    have HF : Hid (Fr [] w ((w.alloc (.cells f.arr 87)).alloc (.cells x.arr 80))) := F0
    have HI : Hid (insOk P.F P.mg f i x seen = (decide (0 < rowN x.op) && (regsL x (fT x.op)).all (inR f) && (!hasL (fT x.op) 99 || decide (0 ≤ x.c ∧ x.c ≤ 1000)) && (!hasL (fT x.op) 75 || numOk P.F P.mg f i x seen) && inEq (woL x (fT x.op)) (bareI x))) := rfl
    have hlt := rowN_lt x.op
    have HRLB : Hid ((regsL x (fT x.op)).length ≤ 8000000000020) := by
      have h1 := okLs_f _ hlt
      unfold okLs at h1
      simp only [Bool.and_eq_true, decide_eq_true_eq] at h1
      have h2 := regsL_take_len x (fT x.op) h1.2 (fT x.op).length
      rw [List.take_length] at h2
      have h3 : (fT x.op).length ≤ 10 := h1.1.1
      unfold Hid
      omega
    have CG := registers_txt (fT x.op) (okLs_f _ hlt) P.B x _ X0 J0.bw hxl
    have TC := J0.tb.f.cell _ hlt
    have OK1 : Hid (∀ p, p < (fT x.op).length → ((fT x.op).getD p 0).toNat = 75 → hasL ((fT x.op).take p) 75 = false) := once_k _ hlt
    have AS : Hid ((fT x.op).all (fun c => decide (c.toNat < 128)) = true) := ascii_f _ hlt
    have N27 : Hid (hasL (fT x.op) 75 = false → x.op ≠ 27) := fun hh e => no_k27 _ hlt hh (by rw [e]; rfl)
    have LT : Hid ((fT x.op).length ≤ 10) := by have := okLs_f _ hlt; unfold okLs at this; simp only [Bool.and_eq_true, decide_eq_true_eq] at this; exact this.1.1
    have TC' : ((w.alloc (.cells f.arr 87)).alloc (.cells x.arr 80)).cell? ⟨0, rowN x.op, none⟩ = some (.string (txt (fT x.op))) := TC
    clear hy hn F0 b1 h TC hx
    obtain ⟨q, hq⟩ : ∃ q : Nat, x.op = (q : Int) := ⟨x.op.toNat, by unfold rowN at hrow; split at hrow <;> omega⟩
    obtain ⟨hq1, hq2, hq3⟩ := rowN_eq (q := q) (by rw [← hq]; exact hrow)
    have HI2 : Hid (insOk P.F P.mg f i x seen = ((regsL x (fT x.op)).all (inR f) && (!hasL (fT x.op) 99 || decide (0 ≤ x.c ∧ x.c ≤ 1000)) && (!hasL (fT x.op) 75 || numOk P.F P.mg f i x seen) && inEq (woL x (fT x.op)) (bareI x))) := by unfold Hid; rw [HI.out, decide_eq_true hrow]; simp
    rw [hq, hq1] at TC' CRow
    rw [← hq] at TC'
    generalize fT x.op = l at *
    have NUM := fun {w' : World} (j : JS P n i cnt seen w') (R' : Ending → World → Prop) => number_cps j f x hwk hxl hcl hfl hm0 hm1 hcnt R'
    have hqI : (1 : Int) ≤ (q : Int) ∧ (q : Int) ≤ 28 := by omega
    have hq0 : (0 : Int) < (q : Int) := by omega
    have hqd : decide (0 < q) = true := decide_eq_true (by omega)
    have hq29 : (q : Int) < 29 := by omega
    have HW := hsz
    clear HI hrow hq1
    obtain ⟨xop, xa, xb, xc, xk, xla, xlc, xl⟩ := x
    simp only at *
    subst hq
    have HXX : Hid (InOk P.B ((w.alloc (.cells f.arr 87)).alloc (.cells (In.arr ⟨q, xa, xb, xc, xk, xla, xlc, xl⟩) 80)) ⟨q, xa, xb, xc, xk, xla, xlc, xl⟩) := X0
    unfold Fu.arr In.arr at *
    simp only at *
    go_enter Tryz.func166, Tryz.ntmps166
    go_wp2_with (first | (go_at_call 173; with_reducible (refine (CRow _).mono ?_); rintro e w' ⟨rfl, rfl⟩) | (go_at_call 154; with_reducible (refine (want_yes P.jb _).mono ?_); rintro e w' ⟨rfl, rfl⟩) | (go_at_call 174; with_reducible (refine CG.mono ?_); rintro e W1 ⟨v, rfl, ho, f1⟩; obtain ⟨va, vc, rfl, hvl, hvn⟩ := ho.slice))
    have HB1 : Hid (W1.heap[w.heap.size]? = some (.cells #[.string f.name, .int .i64 f.ps, .int .i64 f.rs, .slice f.ca f.code.length f.cc] 87 (0, 0))) := (f1.block _ (Array.getElem?_eq_some_iff.1 bf).1 (by simp)).trans bf
    have HB2 : Hid (W1.heap[w.heap.size + 1]? = some (.cells #[.int .i64 (q : Int), .int .i64 xa, .int .i64 xb, .int .i64 xc, .int .i64 xk, .slice xla xl.length xlc] 80 (0, 0))) := (f1.block _ (Array.getElem?_eq_some_iff.1 bx).1 (by simp)).trans bx
    have J1 := HJ.out.fr0 f1
    have HJ1 : Hid (JS P n i cnt seen W1) := J1
    have HX1 : Hid (InOk P.B W1 ⟨(q : Int), xa, xb, xc, xk, xla, xlc, xl⟩) := HXX.out.fr f1 (by simp)
    have HF1 : Hid (Fr [] w W1) := HF.out.trans f1
    have HS1 : Hid (w.heap.size + 2 ≤ W1.heap.size) := by have := f1.size; unfold Hid; omega
    have hka := ho.kat
    have HRL : Hid ((regsL ⟨(q : Int), xa, xb, xc, xk, xla, xlc, xl⟩ l).length ≤ vc) := hvl
    have rs : W1.cell? ⟨w.heap.size, 2, none⟩ = some (.int .i64 f.rs) := at_cells HB1.out 2 rfl
    clear CG CRow TC' J0 HJ HXX X0 HF f1 ho hvl hsz HW bf bx
    generalize hRR : regsL ⟨(q : Int), xa, xb, xc, xk, xla, xlc, xl⟩ l = RR at *
    clear hRR
    have hRb : (RR.length : Int) ≤ 9223372036854775807 := by
      have := HRLB.out
      omega
    go_loopw [8, 25] (fun _ ix wr => wr = W1 ∧ ∃ p : Nat, p ≤ RR.length ∧ ix = .int .i64 p ∧ Hid ((RR.take p).all (inR f) = true)) (fun _ ix _ => RR.length - (intOf ix).toNat)
    case atStart => exact ⟨rfl, 0, Nat.zero_le _, rfl, rfl⟩
    case round =>
      obtain ⟨hw1, p, hp, rfl, hall⟩ := hrel
      have hw1' := hw1.symm
      subst hw1'
      by_cases hlt : p < RR.length
      · have hr : RR[p]? = some RR[p] := List.getElem?_eq_getElem hlt
        obtain ⟨vb, vo, rfl, hvb, hcell⟩ := hka p _ hr
        generalize RR[p] = r at *
        by_cases hin : inR f r = true
        · have hin2 : 0 ≤ r ∧ r < f.rs := by simpa [inR] using hin
          have HA : Hid ((RR.take (p + 1)).all (inR f) = true) := all_take hr hall.out hin
          have d0 : decide (0 ≤ r) = true := decide_eq_true hin2.1
          have d1 : decide (r < f.rs) = true := decide_eq_true hin2.2
          clear hr hin hin2 hall
          go_wp2_with (go_at_call 154; with_reducible (refine (want_yes P.jb _).mono ?_); rintro e w' ⟨rfl, hw'⟩; have hw'' := hw'.symm; subst hw'')
          go_roundw
          case rel => exact ⟨by first | rfl | trivial, p + 1, hlt, by go_num, HA⟩
          case measure => simp [intOf]; omega
        · have hin' : inR f r = false := by simpa using hin
          have HO : Hid (insOk P.F P.mg f i ⟨(q : Int), xa, xb, xc, xk, xla, xlc, xl⟩ seen = false) := by unfold Hid; rw [HI2.out, all_at hr hin']; rfl
          have hin2 : ¬ (0 ≤ r ∧ r < f.rs) := by simpa [inR] using hin'
          have D := want_no J1.blk
          have HFN : Hid (R (thrown n i) W1) := HNO.out HO.out _ (HF1.out.sub (by simp))
          clear hr hin hall hin'
          by_cases d0 : 0 ≤ r
          · have d0' : decide (0 ≤ r) = true := decide_eq_true d0
            have d1' : decide (r < f.rs) = false := decide_eq_false (fun h => hin2 ⟨d0, h⟩)
            clear hin2 d0
            go_wp2_with (go_at_call 154; with_reducible (refine D.mono ?_); rintro e w' ⟨rfl, rfl⟩; unfold thrown)
            exact bodyPost_panic rfl HFN.out
          · have d0' : decide (0 ≤ r) = false := decide_eq_false d0
            clear hin2 d0
            go_wp2_with (go_at_call 154; with_reducible (refine D.mono ?_); rintro e w' ⟨rfl, rfl⟩; unfold thrown)
            exact bodyPost_panic rfl HFN.out
      · have HA : Hid (RR.all (inR f) = true) := by have := hall.out; rw [List.take_of_length_le (by omega)] at this; exact this
        have HI3 : Hid (insOk P.F P.mg f i ⟨(q : Int), xa, xb, xc, xk, xla, xlc, xl⟩ seen = ((!hasL l 99 || decide (0 ≤ xc ∧ xc ≤ 1000)) && (!hasL l 75 || numOk P.F P.mg f i ⟨(q : Int), xa, xb, xc, xk, xla, xlc, xl⟩ seen) && inEq (woL ⟨(q : Int), xa, xb, xc, xk, xla, xlc, xl⟩ l) (bareI ⟨(q : Int), xa, xb, xc, xk, xla, xlc, xl⟩))) := by unfold Hid; rw [HI2.out, HA.out]; simp
        clear HI2 HA hall hka
        go_wp2
        have hN : W1.heap.size = W1.heap.size := rfl
        have I0 : InsI P n i cnt seen f ⟨(q : Int), xa, xb, xc, xk, xla, xlc, xl⟩ l w W1.heap.size 0 (W1.iter (txt l) 0) := by
          have f2 : Fr [] W1 (W1.iter (txt l) 0) := (Fr.refl _ _).alloc _
          exact ⟨Nat.zero_le _, World.iter_heap W1 (txt l) 0, (HF1.out.trans f2).sub (by simp), (f2.block _ (Array.getElem?_eq_some_iff.1 HB1.out).1 (by simp)).trans HB1.out, (f2.block _ (Array.getElem?_eq_some_iff.1 HB2.out).1 (by simp)).trans HB2.out, HJ1.out.fr0 f2, fun hh => by simp [hasL] at hh, fun hh => by simp [hasL] at hh⟩
        have HIX : Hid (∀ w', Fr [] W1 w' → InOk P.B w' ⟨(q : Int), xa, xb, xc, xk, xla, xlc, xl⟩) := fun w' f' => HX1.out.fr f' (by simp)
        have HNB : Hid (w.heap.size + 1 < W1.heap.size) := by have := HS1.out; unfold Hid; omega
        have HX0 : Hid (InOk P.B W1 ⟨(q : Int), xa, xb, xc, xk, xla, xlc, xl⟩) := HX1.out
        have HWB : Hid (P.B ≤ w.heap.size) := by have := HJ1.out.lo1; unfold Hid; omega
        clear J1 HJ1 HX1 rs HRL hRb HRLB
        generalize hN0 : W1.heap.size = N at *
        clear hN
        go_loopw [10] (fun _ wr => ∃ pos, InsI P n i cnt seen f ⟨(q : Int), xa, xb, xc, xk, xla, xlc, xl⟩ l w N pos wr ∧ Fr (N :: P.S) W1 wr) (fun _ wr => l.length - wr.iterPos N)
        case atStart => exact ⟨0, I0, (Fr.refl _ _).alloc _⟩
        case round =>
          obtain ⟨pos, hI, hFI⟩ := hrel
          clear I0
          have hit := hI.it
          have hmu : wr.iterPos N = pos := iterPos_of hit
          have hts := txt_size l
          by_cases hp : pos < l.length
          · have hp' : pos < (txt l).size := by rw [hts]; exact hp
            have hc : ((txt l)[pos]'hp').toNat < 128 := by
              have h1 := List.all_eq_true.1 AS.out (l[pos]'hp) (List.getElem_mem hp)
              rw [idx_txt l pos hp]
              exact of_decide_eq_true h1
            have hnx := fun ty => Lib.run_next_ascii_at (P := Tryz.prog) wr N (txt l) pos ty hit hp' hc
            rw [idx_txt l pos hp] at hnx hc
            have NXT := @InsI.next P n i cnt seen f ⟨(q : Int), xa, xb, xc, xk, xla, xlc, xl⟩ l w N pos wr hI hp HNB.out hjb hmb
            have f1 := Fr.iterAt wr N (txt l) (pos + 1)
            have hSN : ∀ k, k ∈ [N] → P.B ≤ k ∧ k ≠ P.jb ∧ k ≠ P.mb := fun k hk => by
              simp at hk
              have := HNB.out
              have := HWB.out
              omega
            have J2 := hI.j.frS f1 hSN
            have b2 := (f1.block _ (Array.getElem?_eq_some_iff.1 hI.bx).1 (by have := HNB.out; simp; omega)).trans hI.bx
            have b1 := (f1.block _ (Array.getElem?_eq_some_iff.1 hI.bf).1 (by have := HNB.out; simp; omega)).trans hI.bf
            have HFI : Hid (Fr (N :: P.S) W1 (wr.iterAt N (txt l) (pos + 1))) := hFI.trans (f1.sub (fun k hk => .inl (by simp at hk; simp [hk])))
            have HFW : Hid (Fr P.S w (wr.iterAt N (txt l) (pos + 1))) := ((hI.fr.sub (T := N :: P.S) (fun k hk => .inl (List.mem_cons_of_mem _ hk))).trans (f1.sub (fun k hk => .inl (by simp at hk; simp [hk])))).sub (fun k hk => by
              simp only [List.mem_cons] at hk
              rcases hk with rfl | hk
              · exact .inr (by have := HNB.out; omega)
              · exact .inl hk)
            have hmu3 : ∀ {w3 : World}, InsI P n i cnt seen f ⟨(q : Int), xa, xb, xc, xk, xla, xlc, xl⟩ l w N (pos + 1) w3 → w3.iterPos N = pos + 1 := fun h => iterPos_of h.it
            have T75 : Hid (hasL (l.take (pos + 1)) 75 = (hasL (l.take pos) 75 || l[pos].toNat == 75)) := by
              show hasL (l.take (pos + 1)) 75 = _
              rw [take_snoc1 hp]
              exact hasL_snoc _ _ _
            have O75 : Hid (l[pos].toNat = 75 → hasL (l.take pos) 75 = false) := fun h => OK1.out pos hp (by rw [List.getD_eq_getElem?_getD, List.getElem?_eq_getElem hp]; exact h)
            have HMEM : Hid (∀ k, l[pos].toNat = k → hasL l k = true) := fun k h => by unfold hasL; exact List.any_eq_true.2 ⟨l[pos], List.getElem_mem _, by simpa using h⟩
            generalize l[pos].toNat = c at *
            generalize wr.iterAt N (txt l) (pos + 1) = W2 at *
            unfold Fu.arr at b1
            unfold In.arr at b2
            have q3 : W2.cell? ⟨w.heap.size + 1, 3, none⟩ = some (.int .i64 xc) := at_cells b2 3 rfl
            clear hI
            by_cases e9 : c = 99
            · subst e9
              have C := within_any J2.blk xc 0 1000
              by_cases hcc : 0 ≤ xc ∧ xc ≤ 1000
              · rw [decide_eq_true hcc] at C
                have I3 := NXT (Fr.refl _ _) (by rw [T75.out]; simpa using J2) (fun _ => hcc) (fun h => by cases h)
                have hm3 := hmu3 I3
                clear NXT J2 NUM hcc
                go_wp2_with (go_at_call 155; with_reducible (refine C.mono ?_); intro e w9 hE9; obtain ⟨rfl, rfl⟩ := Out.yesW hE9)
                go_roundw
                case rel => exact ⟨pos + 1, I3, HFI.out⟩
                case measure => rw [hmu, hm3]; omega
              · rw [decide_eq_false hcc] at C
                have HO : Hid (insOk P.F P.mg f i ⟨(q : Int), xa, xb, xc, xk, xla, xlc, xl⟩ seen = false) := by unfold Hid; rw [HI3.out, HMEM.out 99 rfl, decide_eq_false hcc]; rfl
                have HFN : Hid (R (thrown n i) W2) := HNO.out HO.out _ HFW.out
                clear NXT J2 NUM hcc
                go_wp2_with (go_at_call 155; with_reducible (refine C.mono ?_); intro e w9 hE9; obtain ⟨rfl, rfl⟩ := Out.no hE9; unfold thrown)
                exact bodyPost_panic rfl HFN.out
            · have d9 : ((c : Int) == 99) = false := beq_int_false (by omega)
              by_cases e7 : c = 75
              · subst e7
                have h75 := O75.out rfl
                rw [h75] at J2
                simp only [Bool.false_eq_true, if_false] at J2
                have C := fun R' => NUM J2 R'
                have y0 : W2.cell? ⟨w.heap.size + 1, 0, none⟩ = some (.int .i64 (q : Int)) := at_cells b2 0 rfl
                have y1 : W2.cell? ⟨w.heap.size + 1, 1, none⟩ = some (.int .i64 xa) := at_cells b2 1 rfl
                have y2 : W2.cell? ⟨w.heap.size + 1, 2, none⟩ = some (.int .i64 xb) := at_cells b2 2 rfl
                have y4 : W2.cell? ⟨w.heap.size + 1, 4, none⟩ = some (.int .i64 xk) := at_cells b2 4 rfl
                have y5 : W2.cell? ⟨w.heap.size + 1, 5, none⟩ = some (.slice xla xl.length xlc) := at_cells b2 5 rfl
                have z0 : W2.cell? ⟨w.heap.size, 0, none⟩ = some (.string f.name) := at_cells b1 0 rfl
                have z1 : W2.cell? ⟨w.heap.size, 1, none⟩ = some (.int .i64 f.ps) := at_cells b1 1 rfl
                have z2 : W2.cell? ⟨w.heap.size, 2, none⟩ = some (.int .i64 f.rs) := at_cells b1 2 rfl
                have z3 : W2.cell? ⟨w.heap.size, 3, none⟩ = some (.slice f.ca f.code.length f.cc) := at_cells b1 3 rfl
                clear NUM d9
                go_wp2_with fail
                refine C _ ?_ ?_
                · intro hO w9 J9 f9
                  have I3 := NXT f9 (by rw [T75.out]; simpa using J9) (fun h => by cases h) (fun _ => hO)
                  have hm3 := hmu3 I3
                  have HF9 : Hid (Fr (N :: P.S) W1 w9) := HFI.out.trans (f9.sub (fun k hk => .inl (List.mem_cons_of_mem _ hk)))
                  clear C NXT J9 J2 hO y0 y1 y2 y4 y5 z0 z1 z2 z3 q3
                  go_wp2
                  go_roundw
                  case rel => exact ⟨pos + 1, I3, HF9.out⟩
                  case measure => rw [hmu, hm3]; omega
                · intro hO w9 f9
                  have HO : Hid (insOk P.F P.mg f i ⟨(q : Int), xa, xb, xc, xk, xla, xlc, xl⟩ seen = false) := by unfold Hid; rw [HI3.out, HMEM.out 75 rfl, hO]; simp
                  exact bodyPost_panic (P := Tryz.prog) (fn := Tryz.f166) rfl (HNO.out HO.out _ (HFW.out.trans f9))
              · have d7 : ((c : Int) == 75) = false := beq_int_false (by omega)
                have d75 : (c == 75) = false := by simpa using e7
                have I3 := NXT (Fr.refl _ _) (by rw [T75.out, d75]; simpa using J2) (fun h => absurd h e9) (fun h => absurd h e7)
                have hm3 := hmu3 I3
                clear NXT J2 NUM e9 e7
                go_wp2
                go_roundw
                case rel => exact ⟨pos + 1, I3, HFI.out⟩
                case measure => rw [hmu, hm3]; omega
          · have hnx := fun ty => Lib.run_next_end_at (P := Tryz.prog) wr N (txt l) pos ty hit (by rw [hts]; exact hp)
            have HE : Hid (l.take pos = l) := List.take_of_length_le (by omega)
            have hc := hI.c
            have hk := hI.k
            have hj := hI.j
            rw [HE.out] at hc hk hj
            have HJF : Hid (JS P n i (nCnt (q : Int) cnt) (nSeen (q : Int) xk seen) wr) := by
              by_cases h75 : hasL l 75 = true
              · simp only [h75, if_true] at hj; exact hj
              · have h75' : hasL l 75 = false := by simpa using h75
                have n27 : ¬ ((q : Int) = 27) := N27.out h75'
                simp only [h75', Bool.false_eq_true, if_false] at hj
                unfold nCnt nSeen
                rw [if_neg n27, if_neg n27]
                exact hj
            have HI4 : Hid (insOk P.F P.mg f i ⟨(q : Int), xa, xb, xc, xk, xla, xlc, xl⟩ seen = inEq (woL ⟨(q : Int), xa, xb, xc, xk, xla, xlc, xl⟩ l) (bareI ⟨(q : Int), xa, xb, xc, xk, xla, xlc, xl⟩)) := by
              unfold Hid
              rw [HI3.out]
              have t1 : (!hasL l 99 || decide (0 ≤ xc ∧ xc ≤ 1000)) = true := by
                cases h99 : hasL l 99 with
                | false => rfl
                | true => simpa using hc h99
              have t2 : (!hasL l 75 || numOk P.F P.mg f i ⟨(q : Int), xa, xb, xc, xk, xla, xlc, xl⟩ seen) = true := by
                cases h75 : hasL l 75 with
                | false => rfl
                | true => simpa using hk h75
              rw [t1, t2]; simp
            have HXW : Hid (∀ w', Fr [] wr w' → InOk P.B w' ⟨(q : Int), xa, xb, xc, xk, xla, xlc, xl⟩) := fun w' f' => (HX0.out.fr hFI (fun k hk => by
              simp only [List.mem_cons, JP.S, List.not_mem_nil, or_false] at hk
              have h1 := HJF.out.lo1
              have h2 := HJF.out.lo2
              have h3 := HNB.out
              have h4 := HWB.out
              omega)).fr f' (by simp)
            have CW : ∀ w', Calls Tryz.prog 177 #[.agg (In.arr ⟨(q : Int), xa, xb, xc, xk, xla, xlc, xl⟩), .string (txt l)] w' fun e w'' => e = .returned (.agg (woL ⟨(q : Int), xa, xb, xc, xk, xla, xlc, xl⟩ l).arr) ∧ Fr [] w' w'' := fun w' => by
              have := without_any (txt l) (by rw [hts]; exact LT.out) (fun k hk => by
                have hk' : k < l.length := by rw [hts] at hk; exact hk
                rw [idx_txt l k hk']
                exact of_decide_eq_true (List.all_eq_true.1 AS.out (l[k]'hk') (List.getElem_mem hk'))) ⟨(q : Int), xa, xb, xc, xk, xla, xlc, xl⟩ w'
              rw [txt_list] at this
              exact this
            have CS : ∀ w', Fr [] wr w' → Calls Tryz.prog 176 #[.agg (woL ⟨(q : Int), xa, xb, xc, xk, xla, xlc, xl⟩ l).arr, .agg (In.arr (bareI ⟨(q : Int), xa, xb, xc, xk, xla, xlc, xl⟩))] w' fun e w'' => e = .returned (.bool (inEq (woL ⟨(q : Int), xa, xb, xc, xk, xla, xlc, xl⟩ l) (bareI ⟨(q : Int), xa, xb, xc, xk, xla, xlc, xl⟩))) ∧ Fr [] w' w'' := fun w' f' => sameIns_any P.B w' _ _ ((HXW.out w' f').wo l) (InOk.bare _)
            have CJ : ∀ w', Fr [] wr w' → JB w' P.jb P.fa P.len P.cap P.mn P.mg P.mb n i := fun w' f' => HJF.out.blk.fr f' (by simp)
            have bx := hI.bx
            have HFR : Hid (Fr P.S w wr) := hI.fr
            generalize inEq (woL ⟨(q : Int), xa, xb, xc, xk, xla, xlc, xl⟩ l) (bareI ⟨(q : Int), xa, xb, xc, xk, xla, xlc, xl⟩) = ev at *
            generalize (woL ⟨(q : Int), xa, xb, xc, xk, xla, xlc, xl⟩ l).arr = ya at *
            unfold In.arr at CW CS bx
            simp only [bareI, List.length_nil] at CS
            clear hj hc hk hI hFI HI3 NUM HIX HX0 HXW HB1 HB2
            have y0 : wr.cell? ⟨w.heap.size + 1, 0, none⟩ = some (.int .i64 (q : Int)) := at_cells bx 0 rfl
            have y1 : wr.cell? ⟨w.heap.size + 1, 1, none⟩ = some (.int .i64 xa) := at_cells bx 1 rfl
            have y2 : wr.cell? ⟨w.heap.size + 1, 2, none⟩ = some (.int .i64 xb) := at_cells bx 2 rfl
            have y3 : wr.cell? ⟨w.heap.size + 1, 3, none⟩ = some (.int .i64 xc) := at_cells bx 3 rfl
            have y4 : wr.cell? ⟨w.heap.size + 1, 4, none⟩ = some (.int .i64 xk) := at_cells bx 4 rfl
            have y5 : wr.cell? ⟨w.heap.size + 1, 5, none⟩ = some (.slice xla xl.length xlc) := at_cells bx 5 rfl
            have kp0 : ∀ w', Fr [] wr w' → w'.cell? ⟨w.heap.size + 1, 0, none⟩ = some (.int .i64 (q : Int)) := fun w' f' => f'.cell1 y0 (by simp)
            have RF : Fr [] wr wr.drew := (Fr.refl _ _).drew
            have HYF : Hid (ev = true → ∀ w', Fr [] wr w' → R (.returned (.tuple #[])) w') := fun he w' f' => HYES.out (HI4.out.trans he) w' (HJF.out.fr0 f') (HFR.out.trans (f'.sub (by simp)))
            have HNF : Hid (ev = false → ∀ w', Fr [] wr w' → R (thrown n i) w') := fun he w' f' => HNO.out (HI4.out.trans he) w' (HFR.out.trans (f'.sub (by simp)))
            clear HYES HNO HI4 bx
            go_wp2_with fail
            go_region_with (first
              | (go_at_call 177; with_reducible (refine (CW _).mono ?_); rintro e w1 ⟨rfl, f1⟩; have G1 : Fr [] wr w1 := RF.trans f1; have c0 := kp0 _ G1)
              | (go_at_call 176; with_reducible (refine (CS _ G1).mono ?_); rintro e w2 ⟨rfl, f2⟩; have G2 : Fr [] wr w2 := G1.trans f2)
              | (go_at_call 154; with_reducible (refine (want_any (CJ _ G2) ev).mono ?_); intro e w3 hE; cases ev; (· obtain ⟨rfl, rfl⟩ := Out.no hE; unfold thrown; show bodyPost Tryz.prog Tryz.f166 R (.panic _) _ _; have hnf := HNF.out rfl _ G2; unfold thrown at hnf; exact bodyPost_panic rfl hnf); obtain ⟨rfl, rfl⟩ := Out.yesW hE))
            all_goals
              have HG : Hid (Fr [] wr w2) := G2
              clear CW CS CJ
              go_wp2
              go_end0
              exact HYF.out (by first | rfl | trivial) _ HG.out
  · have HO : Hid (insOk P.F P.mg f i x seen = false) := by unfold Hid insOk; rw [decide_eq_false hrow]; rfl
    have hr0 : rowN x.op = 0 := by omega
    have D := want_no J0.blk
    have HN2 : Hid (R (thrown n i) ((w.alloc (.cells f.arr 87)).alloc (.cells x.arr 80))) := hn HO.out _ (F0.sub (by simp))
    rw [hr0] at CRow
    clear hy hn F0 b1 J0 h hrow hr0
    unfold Fu.arr In.arr at *
    go_enter Tryz.func166, Tryz.ntmps166
    go_wp2_with (first | (go_at_call 173; refine (CRow _).mono ?_; rintro e w' ⟨rfl, rfl⟩) | (go_at_call 154; with_reducible (refine D.mono ?_); rintro e w' ⟨rfl, rfl⟩; unfold thrown))
    exact bodyPost_panic rfl HN2.out
end Go.Proofs.YtkjkpkmmojchiaaGreatDoor
