/-
  Which code a judge takes; conditions: the judge and the code lie as told.
-/
import Derived.Test.YtkjkpkmmojchiaaGreatDoorIrS
namespace Go.Proofs.YtkjkpkmmojchiaaGreatDoor
open Go.RowKit Go.Maps
set_option linter.unusedVariables false
set_option linter.unusedSimpArgs false

/-- Functions from number n on: the first that is wrong and its instruction. -/
def funsL (F : List Fu) (mg : Int) : List Fu → Nat → (Int → Bool) → Nat → Except (Nat × Nat) Unit
  | [], _, _, _ => .ok ()
  | f :: r, n, seen, cnt => match funL F mg f seen cnt with
    | .error p => .error (n, p)
    | .ok (s, c) => funsL F mg r (n + 1) s c
def wholeL (F : List Fu) (mn mg : Int) : Except (Nat × Nat) Unit :=
  if 0 ≤ mg ∧ (0 ≤ mn ∧ mn ≤ (F.length : Int) - 1) ∧ psAt F mn = 0 then funsL F mg F 0 (fun _ => false) 0 else .error (0, 0)
def totC (F : List Fu) : Nat := (F.map (fun f => f.code.length)).sum
theorem codeL_cnt {F : List Fu} {mg : Int} {f : Fu} : ∀ (L : List In) (p : Nat) (seen : Int → Bool) (cnt : Nat) (s : Int → Bool) (c : Nat), codeL F mg f L p seen cnt = .ok (s, c) → c ≤ cnt + L.length
  | [], p, seen, cnt, s, c, h => by simp [codeL] at h; omega
  | x :: r, p, seen, cnt, s, c, h => by
    unfold codeL at h
    split at h
    · have := codeL_cnt r _ _ _ s c h
      have := nCnt_le x.op cnt
      simp only [List.length_cons]
      omega
    · cases h
theorem funL_cnt {F : List Fu} {mg : Int} {f : Fu} {seen : Int → Bool} {cnt : Nat} {s : Int → Bool} {c : Nat} (h : funL F mg f seen cnt = .ok (s, c)) : c ≤ cnt + f.code.length := by
  unfold funL at h
  split at h
  · split at h
    · cases h
    · rename_i s' hs
      split at h
      · cases h
        exact codeL_cnt _ _ _ _ _ _ hs
      · cases h
  · cases h
def WRes (w : World) (S : List Nat) (R : Ending → World → Prop) : Except (Nat × Nat) Unit → Prop
  | .ok _ => ∀ w', Fr S w w' → R (.returned (.tuple #[])) w'
  | .error (a, b) => ∀ w', Fr S w w' → R (thrown (a : Nat) (b : Nat)) w'
theorem WRes.ok {w : World} {S : List Nat} {R : Ending → World → Prop} (h : WRes w S R (.ok ())) : ∀ w', Fr S w w' → R (.returned (.tuple #[])) w' := h
theorem WRes.err {w : World} {S : List Nat} {R : Ending → World → Prop} {a b : Nat} (h : WRes w S R (.error (a, b))) : ∀ w', Fr S w w' → R (thrown (a : Nat) (b : Nat)) w' := h
theorem totC_drop {F : List Fu} {p : Nat} {f : Fu} (h : F[p]? = some f) : totC (F.drop p) = f.code.length + totC (F.drop (p + 1)) := by
  obtain ⟨h1, h2⟩ := List.getElem?_eq_some_iff.1 h
  rw [List.drop_eq_getElem_cons h1, h2]
  simp [totC]
structure FsOk (F : List Fu) : Prop where
  wk : ∀ f ∈ F, ∀ x ∈ f.code, wfI x.k
  xl : ∀ f ∈ F, ∀ x ∈ f.code, x.l.length ≤ 8000000000000
  tot : totC F ≤ 8000000000000

set_option maxRecDepth 100000 in
set_option maxHeartbeats 8000000 in
theorem whole_cps {P : JP} {w : World} (h : JS P 0 0 0 (fun _ => false) w) (hF : FsOk P.F) (hfl : P.len ≤ 2000000000000) (hm1 : P.mg ≤ 9223372036854775807) (R : Ending → World → Prop) (hR : WRes w P.S R (wholeL P.F P.mn P.mg)) :
    Calls Tryz.prog 133 #[.pointer (some ⟨P.jb, 0, none⟩)] w R := by
  have hjb : P.jb < w.heap.size := (Array.getElem?_eq_some_iff.1 h.blk).1
  have hmb : P.mb < w.heap.size := by obtain ⟨es, c, hm⟩ := h.set.map; exact (Array.getElem?_eq_some_iff.1 hm).1
  have hflI : (P.len : Int) ≤ 2000000000000 := by omega
  have hl1 : IntKind.i64.wrap ((P.len : Int) - 1) = (P.len : Int) - 1 := by rw [IntKind.wrap_i64]; omega
  have HJ : Hid (JS P 0 0 0 (fun _ => false) w) := h
  have RF : Fr [] w w := Fr.refl _ _
  have HD : ∀ w' : World, Fr [] w w' → Fr [] w w'.drew := fun w' h => h.drew
  have j0 : ∀ w', Fr [] w w' → w'.cell? ⟨P.jb, 0, none⟩ = some (.slice P.fa P.len P.cap) := fun w' f => f.cell1 (at_cells h.blk 0 rfl) (by simp)
  have j1 : ∀ w', Fr [] w w' → w'.cell? ⟨P.jb, 1, none⟩ = some (.int .i64 P.mn) := fun w' f => f.cell1 (at_cells h.blk 1 rfl) (by simp)
  have j2 : ∀ w', Fr [] w w' → w'.cell? ⟨P.jb, 2, none⟩ = some (.int .i64 P.mg) := fun w' f => f.cell1 (at_cells h.blk 2 rfl) (by simp)
  have j3 : ∀ w', Fr [] w w' → w'.cell? ⟨P.jb, 3, none⟩ = some (.map (some P.mb)) := fun w' f => f.cell1 (at_cells h.blk 3 rfl) (by simp)
  have j4 : ∀ w', Fr [] w w' → w'.cell? ⟨P.jb, 4, none⟩ = some (.int .i64 0) := fun w' f => f.cell1 (at_cells h.blk 4 rfl) (by simp)
  have j5 : ∀ w', Fr [] w w' → w'.cell? ⟨P.jb, 5, none⟩ = some (.int .i64 0) := fun w' f => f.cell1 (at_cells h.blk 5 rfl) (by simp)
  have CJ : ∀ w', Fr [] w w' → JB w' P.jb P.fa P.len P.cap P.mn P.mg P.mb 0 0 := fun w' f' => h.blk.fr f' (by simp)
  have HLN : Hid (P.F.length = P.len) := h.ln
  have HRES : Hid _ := hR
  have j2' := j2 _ RF
  clear hR
  by_cases g0 : 0 ≤ P.mg
  · have d0 : decide (0 ≤ P.mg) = true := decide_eq_true g0
    by_cases g1 : 0 ≤ P.mn ∧ P.mn ≤ (P.len : Int) - 1
    · have C1 : ∀ w', Fr [] w w' → Calls Tryz.prog 155 #[.pointer (some ⟨P.jb, 0, none⟩), .int .i64 P.mn, .int .i64 0, .int .i64 ((P.len : Int) - 1)] w' (Out true 0 0 (fun w'' => w'' = w') (fun w'' => w'' = w')) := fun w' f' => by
        have := within_any (CJ w' f') P.mn 0 ((P.len : Int) - 1)
        rwa [decide_eq_true g1] at this
      obtain ⟨q, hq⟩ := Int.eq_ofNat_of_zero_le g1.1
      have hqL : q < P.F.length := by have := HLN.out; omega
      have hg : P.F[q]? = some P.F[q] := List.getElem?_eq_getElem hqL
      have hps : psAt P.F P.mn = (P.F[q]).ps := by unfold psAt; rw [hq, Int.toNat_natCast, hg]
      generalize P.F[q] = g at *
      obtain ⟨gb, go, hfa, hgb, hgc⟩ := h.fat q g hg
      have hqI : (q : Int) < (P.len : Int) := by omega
      have hpc : ∀ w', Fr [] w w' → w'.cell? ⟨gb, go + q * 4 + 1, none⟩ = some (.int .i64 g.ps) := fun w' f' => f'.cell1 hgc.c1 (by simp)
      by_cases g2 : g.ps = 0
      · have HQ : Hid (wholeL P.F P.mn P.mg = funsL P.F P.mg P.F 0 (fun _ => false) 0) := by
          unfold Hid wholeL
          rw [if_pos ⟨g0, by rw [HLN.out]; exact g1, by rw [hps]; exact g2⟩]
        have H1 : Hid (WRes w P.S R (funsL P.F P.mg P.F 0 (fun _ => false) 0)) := by have := HRES.out; rw [HQ.out] at this; exact this
        have D := fun w' => want_yes P.jb w'
        have d2 : (g.ps == 0) = true := by simpa using g2
        have FUN := fun {n' : Int} {cnt' : Nat} {seen' : Int → Bool} {w' : World} (j : JS P n' 0 cnt' seen' w') (f : Fu) (a) (b) (c) (d : cnt' + f.code.length ≤ 8000000000000) (R' : Ending → World → Prop) => function_cps j f a b c (by omega) g0 hm1 d R'
        have HLO : Hid (∀ k, k ∈ P.S → P.B ≤ k) := h.low
        have HNI : Hid (∀ k, w.heap.size ≤ k → k ∉ P.S) := fun k hk hm => by simp [JP.S] at hm; omega
        have HFO : Hid (FsOk P.F) := hF
        have HFA : Hid (P.fa = some ⟨gb, go, none⟩) := hfa
        have HT0 : Hid (totC P.F ≤ 8000000000000) := hF.tot
        rw [hfa] at j0
        rw [hq] at j1 C1
        clear g1 h g0 HRES g2 hps hgc hg hfa hq HQ hF
        go_enter Tryz.func133, Tryz.ntmps133
        go_wp2_with (go_at_call 154; with_reducible (refine (want_yes P.jb _).mono ?_); rintro e w' ⟨rfl, hw'⟩; have hw'' := hw'.symm; subst hw'')
        go_region_held3 (fun w' : World => Fr [] w w')
          (with_reducible (first | assumption | exact HD _ (by assumption)))
          (first
            | (go_at_call 155; with_reducible (refine (C1 _ (by assumption)).mono ?_); intro e w1 hE; obtain ⟨rfl, rfl⟩ := Out.yesW hE))
        go_wp2_with fail
        go_region_held3 (fun w' : World => Fr [] w w')
          (with_reducible (first | assumption | exact HD _ (by assumption) | exact HD _ (HD _ RF)))
          (first
            | (go_at_call 154; with_reducible (refine (D _).mono ?_); rintro e w1 ⟨rfl, rfl⟩))
        have G2 : Fr [] w w.drew.drew := HD _ (HD _ RF)
        have HJ2 : Hid (JS P 0 0 0 (fun _ => false) w.drew.drew) := HJ.out.fr0 G2
        have j0' := j0 _ G2
        have HG2 : Hid (Fr P.S w w.drew.drew) := G2.sub (by simp)
        clear j0 j1 j2 j3 j4 j5 j2' C1 hpc CJ hl1 D HD HJ
        generalize w.drew.drew = W0 at *
        go_wp2
        go_loopw [2, 3, 48] (fun _ _ ix wr => ∃ (p : Nat) (seen' : Int → Bool) (cnt' : Nat) (a b : Int), p ≤ P.len ∧ ix = .int .i64 p ∧ JS P a b cnt' seen' wr ∧ Fr P.S w wr ∧ Hid (cnt' + totC (P.F.drop p) ≤ 8000000000000) ∧ Hid (funsL P.F P.mg P.F 0 (fun _ => false) 0 = funsL P.F P.mg (P.F.drop p) p seen' cnt')) (fun _ _ ix _ => P.len - (intOf ix).toNat)
        case atStart => exact ⟨0, _, 0, 0, 0, Nat.zero_le _, rfl, HJ2.out, HG2.out, by unfold Hid; simpa using HT0.out, rfl⟩
        case round =>
          obtain ⟨p, seen', cnt', ja, jbb, hp, rfl, hJ, hFw, hct, hco⟩ := hrel
          clear HJ2 HG2 G2 j0'
          by_cases hlt : p < P.len
          · have hlt' : p < P.F.length := by rw [HLN.out]; exact hlt
            have hx : P.F[p]? = some P.F[p] := List.getElem?_eq_getElem hlt'
            have hdr := List.drop_eq_getElem_cons hlt'
            have hmem : P.F[p] ∈ P.F := List.getElem_mem hlt'
            generalize P.F[p] = f at *
            have htd := totC_drop hx
            obtain ⟨b', o', hca, hb', hI⟩ := hJ.fat p f hx
            rw [HFA.out] at hca
            injection hca with hca
            injection hca with hc1 hc2
            subst hc1 hc2
            have HCX : Hid (funsL P.F P.mg P.F 0 (fun _ => false) 0 = match funL P.F P.mg f seen' cnt' with | .error q' => .error (p, q') | .ok (s, c) => funsL P.F P.mg (P.F.drop (p + 1)) (p + 1) s c) := by
              unfold Hid
              rw [hco.out, hdr]
              rfl
            have g1 : Fr [] wr (wr.alloc (.cells f.arr 87)) := (Fr.refl _ _).alloc _
            have J1 := (hJ.fr0 g1).at2 (p : Int) 0
            have g2 : Fr P.S wr (((wr.alloc (.cells f.arr 87)).setCell ⟨P.jb, 4, none⟩ (.int .i64 (p : Int))).setCell ⟨P.jb, 5, none⟩ (.int .i64 0)) := ((g1.sub (by simp)).setCell (.inl (by simp [JP.S])) _).setCell (.inl (by simp [JP.S])) _
            have X1 : FuOk P.B (((wr.alloc (.cells f.arr 87)).setCell ⟨P.jb, 4, none⟩ (.int .i64 (p : Int))).setCell ⟨P.jb, 5, none⟩ (.int .i64 0)) f := hI.ok.fr g2 HLO.out
            have HG : Hid (Fr P.S w (((wr.alloc (.cells f.arr 87)).setCell ⟨P.jb, 4, none⟩ (.int .i64 (p : Int))).setCell ⟨P.jb, 5, none⟩ (.int .i64 0))) := hFw.trans g2
            have hwl := hFw.size
            have bx0 : (wr.alloc (.cells f.arr 87)).heap[wr.heap.size]? = some (.cells f.arr 87 (0, 0)) := heap_alloc_new wr _
            have bx1 : (((wr.alloc (.cells f.arr 87)).setCell ⟨P.jb, 4, none⟩ (.int .i64 (p : Int))).setCell ⟨P.jb, 5, none⟩ (.int .i64 0)).heap[wr.heap.size]? = some (.cells f.arr 87 (0, 0)) := set_oth (by omega) (set_oth (by omega) bx0)
            have hbk := (hJ.fr0 g1).blk
            unfold JB at hbk
            have jf : ∀ k, (wr.alloc (.cells f.arr 87)).frozen? ⟨P.jb, k, none⟩ = false := fun k => by simp [World.frozen?, hbk]
            have jf4 := jf 4
            have jf5 := jf 5
            have jc4 : (wr.alloc (.cells f.arr 87)).cell? ⟨P.jb, 4, none⟩ = some (.int .i64 ja) := at_cells hbk 4 rfl
            have jc5 : (wr.alloc (.cells f.arr 87)).cell? ⟨P.jb, 5, none⟩ = some (.int .i64 jbb) := at_cells hbk 5 rfl
            have C := FUN J1 f X1 (HFO.out.wk f hmem) (HFO.out.xl f hmem) (by have := hct.out; omega)
            have i0 := hI.c0
            have i1 := hI.c1
            have i2 := hI.c2
            have i3 := hI.c3
            have HCT : Hid (cnt' + (f.code.length + totC (P.F.drop (p + 1))) ≤ 8000000000000) := by have := hct.out; rw [htd] at this; exact this
            have e0 : (((wr.alloc (.cells f.arr 87)).setCell ⟨P.jb, 4, none⟩ (.int .i64 (p : Int))).setCell ⟨P.jb, 5, none⟩ (.int .i64 0)).cell? ⟨wr.heap.size, 0, none⟩ = some (.string f.name) := at_cells bx1 0 rfl
            have e1 : (((wr.alloc (.cells f.arr 87)).setCell ⟨P.jb, 4, none⟩ (.int .i64 (p : Int))).setCell ⟨P.jb, 5, none⟩ (.int .i64 0)).cell? ⟨wr.heap.size, 1, none⟩ = some (.int .i64 f.ps) := at_cells bx1 1 rfl
            have e2 : (((wr.alloc (.cells f.arr 87)).setCell ⟨P.jb, 4, none⟩ (.int .i64 (p : Int))).setCell ⟨P.jb, 5, none⟩ (.int .i64 0)).cell? ⟨wr.heap.size, 2, none⟩ = some (.int .i64 f.rs) := at_cells bx1 2 rfl
            have e3 : (((wr.alloc (.cells f.arr 87)).setCell ⟨P.jb, 4, none⟩ (.int .i64 (p : Int))).setCell ⟨P.jb, 5, none⟩ (.int .i64 0)).cell? ⟨wr.heap.size, 3, none⟩ = some (.slice f.ca f.code.length f.cc) := at_cells bx1 3 rfl
            clear FUN J1 X1 hI hJ hx hdr hmem hco g2 hct htd hbk jf bx1 bx0
            unfold Fu.arr at *
            go_wp2_with fail
            refine C _ ?_
            cases hfu : funL P.F P.mg f seen' cnt' with
            | error q' =>
              intro w9 f9
              have h1 := H1.out
              rw [HCX.out, hfu] at h1
              exact bodyPost_panic (P := Tryz.prog) (fn := Tryz.f133) rfl (h1 _ (HG.out.trans f9))
            | ok sc =>
              obtain ⟨s9, c9⟩ := sc
              intro w9 i9 J9 f9
              have HC9 : Hid (funsL P.F P.mg P.F 0 (fun _ => false) 0 = funsL P.F P.mg (P.F.drop (p + 1)) (p + 1) s9 c9) := by unfold Hid; rw [HCX.out, hfu]
              have hc9 := funL_cnt hfu
              have HT9 : Hid (c9 + totC (P.F.drop (p + 1)) ≤ 8000000000000) := by have := HCT.out; unfold Hid; omega
              have HFA9 : Hid (Fr P.S w w9) := HG.out.trans f9
              have HJ9 : Hid (JS P (p : Int) i9 c9 s9 w9) := J9
              clear C J9 f9 hfu hc9 e0 e1 e2 e3 i0 i1 i2 i3 jf4 jf5 jc4 jc5
              go_wp2
              go_roundw
              case rel => exact ⟨p + 1, _, _, _, _, hlt, by go_num, HJ9.out, HFA9.out, HT9, HC9⟩
              case measure => simp [intOf]; omega
          · have h1 := H1.out
            rw [hco.out, List.drop_of_length_le (by rw [HLN.out]; omega)] at h1
            have H2 : Hid (R (.returned (.tuple #[])) wr) := h1 _ hFw
            have hnl : ¬ (p : Int) < (P.len : Int) := by omega
            clear h1 H1 hco hct hJ FUN
            go_wp2
            go_end0
            exact H2.out
      · have HO : Hid (∀ w', Fr [] w w' → R (thrown 0 0) w') := fun w' f' => by
          have h1 := HRES.out
          unfold wholeL at h1
          rw [if_neg (fun hh => g2 (by rw [← hps]; exact hh.2.2))] at h1
          exact h1 _ (f'.sub (by simp))
        have D := fun w' (f' : Fr [] w w') => want_no (CJ w' f')
        have d2 : (g.ps == 0) = false := by simpa using g2
        rw [hfa] at j0
        rw [hq] at j1 C1
        clear g1 h HJ g0 HRES g2 hps hgc hg hfa hq
        go_enter Tryz.func133, Tryz.ntmps133
        go_wp2_with (go_at_call 154; with_reducible (refine (want_yes P.jb _).mono ?_); rintro e w' ⟨rfl, hw'⟩; have hw'' := hw'.symm; subst hw'')
        go_region_held3 (fun w' : World => Fr [] w w')
          (with_reducible (first | assumption | exact HD _ (by assumption)))
          (first
            | (go_at_call 155; with_reducible (refine (C1 _ (by assumption)).mono ?_); intro e w1 hE; obtain ⟨rfl, rfl⟩ := Out.yesW hE))
        have j0' := j0 _ (HD _ RF)
        have j1' := j1 _ (HD _ RF)
        have hpc' := hpc _ (HD _ RF)
        clear j0 j1 j2 j3 j4 j5 j2' C1 hpc CJ hl1
        go_wp2_with fail
        go_region_dies
        all_goals
          with_reducible (refine (D _ (HD _ (HD _ RF))).mono ?_)
          rintro e w1 ⟨rfl, rfl⟩
          exact bodyPost_panic rfl (HO.out _ (HD _ (HD _ RF)))
    · have C1 : ∀ w', Fr [] w w' → Calls Tryz.prog 155 #[.pointer (some ⟨P.jb, 0, none⟩), .int .i64 P.mn, .int .i64 0, .int .i64 ((P.len : Int) - 1)] w' (Out false 0 0 (fun w'' => w'' = w') (fun w'' => w'' = w')) := fun w' f' => by
        have := within_any (CJ w' f') P.mn 0 ((P.len : Int) - 1)
        rwa [decide_eq_false g1] at this
      have HO : Hid (∀ w', Fr [] w w' → R (thrown 0 0) w') := fun w' f' => by
        have h1 := HRES.out
        unfold wholeL at h1
        rw [if_neg (fun hh => g1 (by have := HLN.out; rw [this] at hh; exact hh.2.1))] at h1
        exact h1 _ (f'.sub (by simp))
      have j0' := j0 _ RF
      have j1' := j1 _ RF
      clear j0 j1 j2 j3 j4 j5 g1 h HJ g0 HRES
      go_enter Tryz.func133, Tryz.ntmps133
      go_wp2_with (go_at_call 154; with_reducible (refine (want_yes P.jb _).mono ?_); rintro e w' ⟨rfl, hw'⟩; have hw'' := hw'.symm; subst hw'')
      go_region_dies
      all_goals
        with_reducible (refine (C1 _ (HD _ RF)).mono ?_)
        intro e w1 hE
        obtain ⟨rfl, rfl⟩ := Out.no hE
        exact bodyPost_panic rfl (HO.out _ (HD _ RF))
  · have d0 : decide (0 ≤ P.mg) = false := decide_eq_false g0
    have HO : Hid (R (thrown 0 0) w) := by
      have h1 := HRES.out
      unfold wholeL at h1
      rw [if_neg (fun hh => g0 hh.1)] at h1
      exact h1 _ (RF.sub (by simp))
    have D := want_no h.blk
    clear j0 j1 j2 j3 j4 j5 g0 h HJ HRES CJ
    go_enter Tryz.func133, Tryz.ntmps133
    go_wp2_with (go_at_call 154; with_reducible (refine D.mono ?_); rintro e w' ⟨rfl, rfl⟩; unfold thrown)
    exact bodyPost_panic rfl HO.out
end Go.Proofs.YtkjkpkmmojchiaaGreatDoor
