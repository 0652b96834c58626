/-
  Which functions a judge takes; conditions: the judge and the function lie as told.
-/
import Derived.Test.YtkjkpkmmojchiaaGreatDoorIrR
namespace Go.Proofs.YtkjkpkmmojchiaaGreatDoor
open Go.RowKit Go.Maps
set_option linter.unusedVariables false
set_option linter.unusedSimpArgs false

def opL (L : List In) (i : Nat) : Int := match L[i]? with | some x => x.op | none => 0
/-- The first instruction that is wrong, from number p on, or what has been met behind them. -/
def codeL (F : List Fu) (mg : Int) (f : Fu) : List In → Nat → (Int → Bool) → Nat → Except Nat ((Int → Bool) × Nat)
  | [], _, seen, cnt => .ok (seen, cnt)
  | x :: r, p, seen, cnt => if insOk F mg f p x seen then codeL F mg f r (p + 1) (nSeen x.op x.k seen) (nCnt x.op cnt) else .error p
/-- A function: the first instruction that is wrong, or what has been met. -/
def funL (F : List Fu) (mg : Int) (f : Fu) (seen : Int → Bool) (cnt : Nat) : Except Nat ((Int → Bool) × Nat) :=
  if 0 ≤ f.ps ∧ f.ps ≤ f.rs ∧ f.rs ≤ 1000 ∧ 1 ≤ f.code.length ∧ f.code.length ≤ 100000 then
    match codeL F mg f f.code 0 seen cnt with
    | .error p => .error p
    | .ok s => if endsL (opL f.code (f.code.length - 1)) then .ok s else .error (f.code.length - 1)
  else .error 0
theorem nCnt_le (op : Int) (cnt : Nat) : nCnt op cnt ≤ cnt + 1 := by unfold nCnt; split <;> omega

theorem JS.at' {P : JP} {n i : Int} {cnt : Nat} {seen : Int → Bool} {w : World} (h : JS P n i cnt seen w) (z : Int) : JS P n z cnt seen (w.setCell ⟨P.jb, 5, none⟩ (.int .i64 z)) := by
  have f : Fr [P.jb] w (w.setCell ⟨P.jb, 5, none⟩ (.int .i64 z)) := (Fr.refl _ _).setCell (.inl (by simp)) _
  have hb := h.blk
  unfold JB at hb
  have nm : P.mb ∉ [P.jb] := by simpa using h.ne.symm
  refine ⟨?_, h.set.fr f nm, h.fat.fr f (by have := h.lo1; simp; omega), h.ln, h.lo1, h.lo2, Nat.le_trans h.bw f.size, h.tb.fr f (by have := h.lo1; have := h.lo; simp; omega), h.lo⟩
  have := set_cells 5 (.int .i64 z) hb
  exact this
theorem JS.at2 {P : JP} {n i : Int} {cnt : Nat} {seen : Int → Bool} {w : World} (h : JS P n i cnt seen w) (y z : Int) : JS P y z cnt seen ((w.setCell ⟨P.jb, 4, none⟩ (.int .i64 y)).setCell ⟨P.jb, 5, none⟩ (.int .i64 z)) := by
  have f : Fr [P.jb] w ((w.setCell ⟨P.jb, 4, none⟩ (.int .i64 y)).setCell ⟨P.jb, 5, none⟩ (.int .i64 z)) := ((Fr.refl _ _).setCell (.inl (by simp)) _).setCell (.inl (by simp)) _
  have hb := h.blk
  unfold JB at hb
  have nm : P.mb ∉ [P.jb] := by simpa using h.ne.symm
  refine ⟨?_, h.set.fr f nm, h.fat.fr f (by have := h.lo1; simp; omega), h.ln, h.lo1, h.lo2, Nat.le_trans h.bw f.size, h.tb.fr f (by have := h.lo1; have := h.lo; simp; omega), h.lo⟩
  have := set_cells 5 (.int .i64 z) (set_cells 4 (.int .i64 y) hb)
  exact this
def FunRes (P : JP) (n : Int) (w : World) (R : Ending → World → Prop) : Except Nat ((Int → Bool) × Nat) → Prop
  | .ok (seen', cnt') => ∀ w' i', JS P n i' cnt' seen' w' → Fr P.S w w' → R (.returned (.tuple #[])) w'
  | .error p => ∀ w', Fr P.S w w' → R (thrown n (p : Nat)) w'
theorem FunRes.ok {P : JP} {n : Int} {w : World} {R : Ending → World → Prop} {seen' : Int → Bool} {cnt' : Nat} (h : FunRes P n w R (.ok (seen', cnt'))) : ∀ w' i', JS P n i' cnt' seen' w' → Fr P.S w w' → R (.returned (.tuple #[])) w' := h
theorem FunRes.err {P : JP} {n : Int} {w : World} {R : Ending → World → Prop} {p : Nat} (h : FunRes P n w R (.error p)) : ∀ w', Fr P.S w w' → R (thrown n (p : Nat)) w' := h

set_option maxRecDepth 100000 in
set_option maxHeartbeats 8000000 in
theorem function_cps {P : JP} {n : Int} {cnt : Nat} {seen : Int → Bool} {w : World} (h : JS P n 0 cnt seen w) (f : Fu) (hf : FuOk P.B w f) (hwk : ∀ x ∈ f.code, wfI x.k) (hxl : ∀ x ∈ f.code, x.l.length ≤ 8000000000000) (hfl : P.len ≤ 20000000000000) (hm0 : 0 ≤ P.mg) (hm1 : P.mg ≤ 9223372036854775807) (hcnt : cnt + f.code.length ≤ 8000000000000) (R : Ending → World → Prop)
    (hR : FunRes P n w R (funL P.F P.mg f seen cnt)) :
    Calls Tryz.prog 156 #[.pointer (some ⟨P.jb, 0, none⟩), .agg f.arr] w R := by
  have F0 : Fr [] w (w.alloc (.cells f.arr 87)) := (Fr.refl _ _).alloc _
  have bf := heap_alloc_new w (.cells f.arr 87)
  have J0 := h.fr0 F0
  have hjb : P.jb < w.heap.size := (Array.getElem?_eq_some_iff.1 h.blk).1
  have hmb : P.mb < w.heap.size := by obtain ⟨es, c, hm⟩ := h.set.map; exact (Array.getElem?_eq_some_iff.1 hm).1
  have HJ : Hid (JS P n 0 cnt seen (w.alloc (.cells f.arr 87))) := J0
  have HF : Hid (Fr [] w (w.alloc (.cells f.arr 87))) := F0
  have hcl := hf.kl
  have hclI : (f.code.length : Int) ≤ 20000000000000 := by omega
  have HFU : Hid (FuOk P.B (w.alloc (.cells f.arr 87)) f) := hf.fr F0 (by simp)
  have HRES : Hid (FunRes P n w R (funL P.F P.mg f seen cnt)) := hR
  have W1 := fun k => want_any J0.blk k
  have W2 := within_any J0.blk (f.code.length : Int) 1 100000
  by_cases g1 : 0 ≤ f.ps ∧ f.ps ≤ f.rs ∧ f.rs ≤ 1000
  · by_cases g2 : (1 : Int) ≤ f.code.length ∧ (f.code.length : Int) ≤ 100000
    · have HQ : Hid (funL P.F P.mg f seen cnt = match codeL P.F P.mg f f.code 0 seen cnt with | .error p => .error p | .ok s => if endsL (opL f.code (f.code.length - 1)) then .ok s else .error (f.code.length - 1)) := by
        unfold Hid funL
        rw [if_pos ⟨g1.1, g1.2.1, g1.2.2, by omega, by omega⟩]
      have D := W1 true
      rw [decide_eq_true g2] at W2
      have d1' : decide (0 ≤ f.ps) = true := decide_eq_true g1.1
      have d2' : decide (f.ps ≤ f.rs) = true := decide_eq_true g1.2.1
      have d3' : decide (f.rs ≤ 1000) = true := decide_eq_true g1.2.2
      have hl1 : 1 ≤ f.code.length := by omega
      have hl2 : (f.code.length : Int) ≤ 100000 := g2.2
      have INS := fun {i' : Int} {cnt' : Nat} {seen' : Int → Bool} {w' : World} (j : JS P n i' cnt' seen' w') (x : In) (hx : InOk P.B w' x) (a b) (c : cnt' ≤ 8000000000000) (R' : Ending → World → Prop) => instr_cps j f x hx a b hcl hfl hm0 hm1 c R'
      have HFW : Hid (Fr P.S w (w.alloc (.cells f.arr 87))) := HF.out.sub (by simp)
      have HLO : Hid (∀ k, k ∈ P.S → P.B ≤ k) := J0.low
      have HNI : Hid (∀ k, w.heap.size ≤ k → k ∉ P.S) := fun k hk hm => by simp [JP.S] at hm; omega
      clear W1 hR J0 hf F0 h g1 g2 hjb hmb
      obtain ⟨fnm, fps, frs, fca, fcc, fcode⟩ := f
      simp only at *
      unfold Fu.arr at *
      go_enter Tryz.func156, Tryz.ntmps156
      go_wp2_with (first | (go_at_call 154; with_reducible (refine D.mono ?_); intro e w9 hE; obtain ⟨rfl, rfl⟩ := Out.yesW hE) | (go_at_call 155; with_reducible (refine W2.mono ?_); intro e w9 hE; obtain ⟨rfl, rfl⟩ := Out.yesW hE))
      generalize w.alloc (.cells #[.string fnm, .int .i64 fps, .int .i64 frs, .slice fca fcode.length fcc] 87) = W0 at *
      clear D W2 d1' d2' d3'
      go_loopw [4, 5, 31] (fun _ _ ix wr => ∃ (p : Nat) (seen' : Int → Bool) (cnt' : Nat), p ≤ fcode.length ∧ ix = .int .i64 p ∧ JS P n ((p - 1 : Nat) : Int) cnt' seen' wr ∧ Fr P.S w wr ∧ Fr P.S W0 wr ∧ wr.heap[w.heap.size]? = some (.cells #[.string fnm, .int .i64 fps, .int .i64 frs, .slice fca fcode.length fcc] 87 (0, 0)) ∧ cnt' ≤ cnt + p ∧ Hid (codeL P.F P.mg ⟨fnm, fps, frs, fca, fcc, fcode⟩ fcode 0 seen cnt = codeL P.F P.mg ⟨fnm, fps, frs, fca, fcc, fcode⟩ (fcode.drop p) p seen' cnt')) (fun _ _ ix _ => fcode.length - (intOf ix).toNat)
      case atStart => exact ⟨0, seen, cnt, Nat.zero_le _, rfl, HJ.out, HFW.out, Fr.refl _ _, bf, Nat.le_refl _, rfl⟩
      case round =>
        obtain ⟨p, seen', cnt', hp, rfl, hJ, hFw, hFW0, hbf, hct, hco⟩ := hrel
        clear HJ HFW bf
        by_cases hlt : p < fcode.length
        · have hx : fcode[p]? = some fcode[p] := List.getElem?_eq_getElem hlt
          have hdr := List.drop_eq_getElem_cons hlt
          have hmem : fcode[p] ∈ fcode := List.getElem_mem hlt
          generalize fcode[p] = x at *
          have hw1 := hwk x hmem
          have hw2 := hxl x hmem
          obtain ⟨b, o, rfl, hb, hI⟩ := (HFU.out.fr hFW0 HLO.out).k p x hx
          have HCX : Hid (codeL P.F P.mg ⟨fnm, fps, frs, (some ⟨b, o, none⟩), fcc, fcode⟩ fcode 0 seen cnt = if insOk P.F P.mg ⟨fnm, fps, frs, (some ⟨b, o, none⟩), fcc, fcode⟩ p x seen' then codeL P.F P.mg ⟨fnm, fps, frs, (some ⟨b, o, none⟩), fcc, fcode⟩ (fcode.drop (p + 1)) (p + 1) (nSeen x.op x.k seen') (nCnt x.op cnt') else .error p) := by
            unfold Hid
            rw [hco.out, hdr]
            rfl
          have g1 : Fr [] wr (wr.alloc (.cells x.arr 80)) := (Fr.refl _ _).alloc _
          have J1 := (hJ.fr0 g1).at' (p : Int)
          have hjl : P.jb < w.heap.size := by
            refine Decidable.byContradiction fun hc => ?_
            exact HNI.out P.jb (by omega) (by simp [JP.S])
          have g2 : Fr P.S wr ((wr.alloc (.cells x.arr 80)).setCell ⟨P.jb, 5, none⟩ (.int .i64 (p : Int))) := (g1.sub (by simp)).setCell (.inl (by simp [JP.S])) _
          have X1 : InOk P.B ((wr.alloc (.cells x.arr 80)).setCell ⟨P.jb, 5, none⟩ (.int .i64 (p : Int))) x := hI.ok.fr g2 HLO.out
          have HG : Hid (Fr P.S w ((wr.alloc (.cells x.arr 80)).setCell ⟨P.jb, 5, none⟩ (.int .i64 (p : Int)))) := hFw.trans g2
          have HG0 : Hid (Fr P.S W0 ((wr.alloc (.cells x.arr 80)).setCell ⟨P.jb, 5, none⟩ (.int .i64 (p : Int)))) := hFW0.trans g2
          have hwl := hFw.size
          have hbw := (Array.getElem?_eq_some_iff.1 hbf).1
          have bx0 : (wr.alloc (.cells x.arr 80)).heap[wr.heap.size]? = some (.cells x.arr 80 (0, 0)) := heap_alloc_new wr _
          have bf0 := (g1.block _ hbw (by simp)).trans hbf
          have bx1 : ((wr.alloc (.cells x.arr 80)).setCell ⟨P.jb, 5, none⟩ (.int .i64 (p : Int))).heap[wr.heap.size]? = some (.cells x.arr 80 (0, 0)) := set_oth (by omega) bx0
          have bf1 : ((wr.alloc (.cells x.arr 80)).setCell ⟨P.jb, 5, none⟩ (.int .i64 (p : Int))).heap[w.heap.size]? = some (.cells #[.string fnm, .int .i64 fps, .int .i64 frs, .slice (some ⟨b, o, none⟩) fcode.length fcc] 87 (0, 0)) := set_oth (by omega) bf0
          have jf : (wr.alloc (.cells x.arr 80)).frozen? ⟨P.jb, 5, none⟩ = false := by have := (hJ.fr0 g1).blk; unfold JB at this; simp [World.frozen?, this]
          have jc : (wr.alloc (.cells x.arr 80)).cell? ⟨P.jb, 5, none⟩ = some (.int .i64 ((p - 1 : Nat) : Int)) := at_cells (hJ.fr0 g1).blk 5 rfl
          have C := INS J1 x X1 hw1 hw2 (by omega)
          have i0 := hI.c0
          have i1 := hI.c1
          have i2 := hI.c2
          have i3 := hI.c3
          have i4 := hI.c4
          have i5 := hI.c5
          have e0 : ((wr.alloc (.cells x.arr 80)).setCell ⟨P.jb, 5, none⟩ (.int .i64 (p : Int))).cell? ⟨wr.heap.size, 0, none⟩ = some (.int .i64 x.op) := at_cells bx1 0 rfl
          have e1 : ((wr.alloc (.cells x.arr 80)).setCell ⟨P.jb, 5, none⟩ (.int .i64 (p : Int))).cell? ⟨wr.heap.size, 1, none⟩ = some (.int .i64 x.a) := at_cells bx1 1 rfl
          have e2 : ((wr.alloc (.cells x.arr 80)).setCell ⟨P.jb, 5, none⟩ (.int .i64 (p : Int))).cell? ⟨wr.heap.size, 2, none⟩ = some (.int .i64 x.b) := at_cells bx1 2 rfl
          have e3 : ((wr.alloc (.cells x.arr 80)).setCell ⟨P.jb, 5, none⟩ (.int .i64 (p : Int))).cell? ⟨wr.heap.size, 3, none⟩ = some (.int .i64 x.c) := at_cells bx1 3 rfl
          have e4 : ((wr.alloc (.cells x.arr 80)).setCell ⟨P.jb, 5, none⟩ (.int .i64 (p : Int))).cell? ⟨wr.heap.size, 4, none⟩ = some (.int .i64 x.k) := at_cells bx1 4 rfl
          have e5 : ((wr.alloc (.cells x.arr 80)).setCell ⟨P.jb, 5, none⟩ (.int .i64 (p : Int))).cell? ⟨wr.heap.size, 5, none⟩ = some (.slice x.la x.l.length x.lc) := at_cells bx1 5 rfl
          have g0' : ((wr.alloc (.cells x.arr 80)).setCell ⟨P.jb, 5, none⟩ (.int .i64 (p : Int))).cell? ⟨w.heap.size, 0, none⟩ = some (.string fnm) := at_cells bf1 0 rfl
          have g1' : ((wr.alloc (.cells x.arr 80)).setCell ⟨P.jb, 5, none⟩ (.int .i64 (p : Int))).cell? ⟨w.heap.size, 1, none⟩ = some (.int .i64 fps) := at_cells bf1 1 rfl
          have g2' : ((wr.alloc (.cells x.arr 80)).setCell ⟨P.jb, 5, none⟩ (.int .i64 (p : Int))).cell? ⟨w.heap.size, 2, none⟩ = some (.int .i64 frs) := at_cells bf1 2 rfl
          have g3' : ((wr.alloc (.cells x.arr 80)).setCell ⟨P.jb, 5, none⟩ (.int .i64 (p : Int))).cell? ⟨w.heap.size, 3, none⟩ = some (.slice (some ⟨b, o, none⟩) fcode.length fcc) := at_cells bf1 3 rfl
          clear INS J1 X1 hI hJ hx hdr hmem hw1 hw2 hco g2
          unfold In.arr at *
          go_wp2_with fail
          refine C _ ?_ ?_
          · intro hO w9 J9 f9
            have HC9 : Hid _ := (HCX.out.trans (if_pos hO))
            have HFA : Hid (Fr P.S w w9) := HG.out.trans f9
            have HFB : Hid (Fr P.S W0 w9) := HG0.out.trans f9
            have HB9 : Hid (w9.heap[w.heap.size]? = some (.cells #[.string fnm, .int .i64 fps, .int .i64 frs, .slice (some ⟨b, o, none⟩) fcode.length fcc] 87 (0, 0))) := (f9.block _ (Array.getElem?_eq_some_iff.1 bf1).1 (HNI.out _ (Nat.le_refl _))).trans bf1
            have HJ9 : Hid (JS P n ((p + 1 - 1 : Nat) : Int) (nCnt x.op cnt') (nSeen x.op x.k seen') w9) := by unfold Hid; simpa using J9
            have hnc := nCnt_le x.op cnt'
            have HNC : Hid (nCnt x.op cnt' ≤ cnt + (p + 1)) := by unfold Hid; omega
            clear C J9 f9 bx1 bf1 bx0 bf0 hO hnc e0 e1 e2 e3 e4 e5 g0' g1' g2' g3' i0 i1 i2 i3 i4 i5 jf jc
            go_wp2
            go_roundw
            case rel => exact ⟨p + 1, _, _, hlt, by go_num, HJ9.out, HFA.out, HFB.out, HB9.out, HNC.out, HC9⟩
            case measure => simp [intOf]; omega
          · intro hO w9 f9
            have hO' : ¬ (insOk P.F P.mg ⟨fnm, fps, frs, some ⟨b, o, none⟩, fcc, fcode⟩ p x seen' = true) := by rw [hO]; simp
            have h1 := HRES.out
            rw [HQ.out, HCX.out, if_neg hO'] at h1
            exact bodyPost_panic (P := Tryz.prog) (fn := Tryz.f156) rfl (h1.err _ (HG.out.trans f9))
        · have hpe : p = fcode.length := by omega
          have hlast : fcode.length - 1 < fcode.length := by omega
          have hx : fcode[fcode.length - 1]? = some fcode[fcode.length - 1] := List.getElem?_eq_getElem hlast
          generalize fcode[fcode.length - 1] = x at *
          obtain ⟨b, o, rfl, hb, hI⟩ := (HFU.out.fr hFW0 HLO.out).k _ x hx
          have HOP : Hid (opL fcode (fcode.length - 1) = x.op) := by unfold Hid opL; rw [hx]
          have HCE : Hid (codeL P.F P.mg ⟨fnm, fps, frs, some ⟨b, o, none⟩, fcc, fcode⟩ fcode 0 seen cnt = .ok (seen', cnt')) := by
            unfold Hid
            rw [hco.out, List.drop_of_length_le (by omega)]
            rfl
          have h1 := HRES.out
          rw [HQ.out, HCE.out] at h1
          simp only [HOP.out] at h1
          have CE := fun w' => ends_any x.op w'
          have i0 := hI.c0
          have b3 : wr.cell? ⟨w.heap.size, 3, none⟩ = some (.slice (some ⟨b, o, none⟩) fcode.length fcc) := at_cells hbf 3 rfl
          have WN := want_any hJ.blk (endsL x.op)
          have HFW9 : Hid (Fr P.S w wr) := hFw
          have HJ9 : Hid (JS P n ((p - 1 : Nat) : Int) cnt' seen' wr) := hJ
          obtain ⟨m, hm⟩ : ∃ m, fcode.length = m + 1 := ⟨fcode.length - 1, by omega⟩
          have hpm : p - 1 = m := by omega
          rw [hpm] at WN HJ9
          have hi0 : wr.cell? ⟨b, o + m * 6, none⟩ = some (.int .i64 x.op) := by
            have := i0
            rw [hm] at this
            simpa using this
          rw [hm, Nat.add_sub_cancel] at h1
          have HPE : Hid (p = m + 1) := by unfold Hid; omega
          have hlen : fcode.length - 1 = m := by omega
          have hwm : IntKind.i64.wrap ((fcode.length : Int) - 1) = (m : Int) := by rw [hm, wrapm1 (by omega) (by omega)]; omega
          have hbI : (m : Int) < (fcode.length : Int) := by omega
          have hdd : decide ((p : Int) < (m : Int) + 1) = false := decide_eq_false (by omega)
          have hdd2 : ¬ (p : Int) < (fcode.length : Int) := by omega
          have H1 : Hid _ := h1
          clear h1 i0 hI hJ hco HCE hx hpe hlt hp HRES HQ hlast hpm
          cases he : endsL x.op with
          | true =>
            have H2 : Hid (FunRes P n w R (.ok (seen', cnt'))) := by have := H1.out; rw [he] at this; exact this
            rw [he] at WN CE
            clear H1 he
            go_wp2_with (first | (go_at_call 167; with_reducible (refine (CE _).mono ?_); rintro e w9 ⟨rfl, rfl⟩) | (go_at_call 154; with_reducible (refine WN.mono ?_); intro e w9 hE; obtain ⟨rfl, rfl⟩ := Out.yesW hE))
            go_end0
            exact H2.out.ok _ _ HJ9.out HFW9.out
          | false =>
            have H2 : Hid (R (thrown n (m : Nat)) wr) := by have := H1.out; rw [he] at this; exact FunRes.err this _ HFW9.out
            rw [he] at WN CE
            clear H1 he
            go_wp2_with (first | (go_at_call 167; with_reducible (refine (CE _).mono ?_); rintro e w9 ⟨rfl, rfl⟩) | (go_at_call 154; with_reducible (refine WN.mono ?_); intro e w9 hE; obtain ⟨rfl, rfl⟩ := Out.no hE; unfold thrown))
            exact bodyPost_panic rfl H2.out
    · have HO : Hid (R (thrown n 0) (w.alloc (.cells f.arr 87))) := by
        have h1 := HRES.out
        unfold funL at h1
        rw [if_neg (fun hh => g2 ⟨by omega, by omega⟩)] at h1
        exact h1.err _ (HF.out.sub (by simp))
      have D := W1 true
      rw [decide_eq_false g2] at W2
      have d1' : decide (0 ≤ f.ps) = true := decide_eq_true g1.1
      have d2' : decide (f.ps ≤ f.rs) = true := decide_eq_true g1.2.1
      have d3' : decide (f.rs ≤ 1000) = true := decide_eq_true g1.2.2
      clear W1 HRES hR J0 HJ hf F0 h g1 g2
      unfold Fu.arr at *
      go_enter Tryz.func156, Tryz.ntmps156
      go_wp2_with (first | (go_at_call 154; with_reducible (refine D.mono ?_); intro e w9 hE; obtain ⟨rfl, rfl⟩ := Out.yesW hE) | (go_at_call 155; with_reducible (refine W2.mono ?_); intro e w9 hE; obtain ⟨rfl, rfl⟩ := Out.no hE; unfold thrown))
      exact bodyPost_panic rfl HO.out
  · have HO : Hid (R (thrown n 0) (w.alloc (.cells f.arr 87))) := by
      have h1 := HRES.out
      unfold funL at h1
      rw [if_neg (fun hh => g1 ⟨hh.1, hh.2.1, hh.2.2.1⟩)] at h1
      exact h1.err _ (HF.out.sub (by simp))
    have D := W1 false
    clear W1 W2 HRES hR J0 HJ hf F0 h
    unfold Fu.arr at *
    by_cases d1 : 0 ≤ f.ps
    · have d1' : decide (0 ≤ f.ps) = true := decide_eq_true d1
      by_cases d2 : f.ps ≤ f.rs
      · have d2' : decide (f.ps ≤ f.rs) = true := decide_eq_true d2
        have d3' : decide (f.rs ≤ 1000) = false := decide_eq_false (fun hh => g1 ⟨d1, d2, hh⟩)
        clear g1 d1 d2
        go_enter Tryz.func156, Tryz.ntmps156
        go_wp2_with (go_at_call 154; with_reducible (refine D.mono ?_); intro e w9 hE; obtain ⟨rfl, rfl⟩ := Out.no hE; unfold thrown)
        exact bodyPost_panic rfl HO.out
      · have d2' : decide (f.ps ≤ f.rs) = false := decide_eq_false d2
        clear g1 d1 d2
        go_enter Tryz.func156, Tryz.ntmps156
        go_wp2_with (go_at_call 154; with_reducible (refine D.mono ?_); intro e w9 hE; obtain ⟨rfl, rfl⟩ := Out.no hE; unfold thrown)
        exact bodyPost_panic rfl HO.out
    · have d1' : decide (0 ≤ f.ps) = false := decide_eq_false d1
      clear g1 d1
      go_enter Tryz.func156, Tryz.ntmps156
      go_wp2_with (go_at_call 154; with_reducible (refine D.mono ?_); intro e w9 hE; obtain ⟨rfl, rfl⟩ := Out.no hE; unfold thrown)
      exact bodyPost_panic rfl HO.out
end Go.Proofs.YtkjkpkmmojchiaaGreatDoor
