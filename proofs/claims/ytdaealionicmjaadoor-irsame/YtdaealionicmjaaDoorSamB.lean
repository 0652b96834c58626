/-
  Whether code is alike, by the document; conditions: the code lies as told.
-/
import Derived.Test.YtdaealionicmjaaDoorSamA
import Derived.Deep.CutRange
namespace Go.Proofs.YtdaealionicmjaaDoor
open Go.RowKit
set_option linter.unusedVariables false
set_option linter.unusedSimpArgs false

set_option maxRecDepth 100000 in
set_option maxHeartbeats 8000000 in
theorem rsame_any (B : Nat) (w : World) (F G : List Fu) (fa0 fa1 : Option Addr) (len0 len1 cap0 cap1 : Nat) (mn0 mg0 mn1 mg1 : Int) (hF : F.length = len0) (hG : G.length = len1) (h0 : len0 ≤ 20000000000000) (h1 : len1 ≤ 20000000000000) (hA : FAt B w fa0 F) (hB : FAt B w fa1 G) :
    Calls Tryd.prog 22 #[.agg #[.slice fa0 len0 cap0, .int .i64 mn0, .int .i64 mg0], .agg #[.slice fa1 len1 cap1, .int .i64 mn1, .int .i64 mg1]] w fun e w' => e = .returned (.bool (cdEq F mn0 mg0 G mn1 mg1)) ∧ Fr [] w w' := by
  have F0 : Fr [] w ((w.alloc (.cells #[.slice fa0 len0 cap0, .int .i64 mn0, .int .i64 mg0] 24)).alloc (.cells #[.slice fa1 len1 cap1, .int .i64 mn1, .int .i64 mg1] 24)) := ((Fr.refl _ _).alloc _).alloc _
  have c1 := heap_alloc_new w (.cells #[.slice fa0 len0 cap0, .int .i64 mn0, .int .i64 mg0] 24)
  have ba := (((Fr.refl [] (w.alloc (.cells #[.slice fa0 len0 cap0, .int .i64 mn0, .int .i64 mg0] 24))).alloc (.cells #[.slice fa1 len1 cap1, .int .i64 mn1, .int .i64 mg1] 24)).block _ (Array.getElem?_eq_some_iff.1 c1).1 (by simp)).trans c1
  have bb := blk2 w (.cells #[.slice fa0 len0 cap0, .int .i64 mn0, .int .i64 mg0] 24) (.cells #[.slice fa1 len1 cap1, .int .i64 mn1, .int .i64 mg1] 24)
  have HA : Hid (FAt B ((w.alloc (.cells #[.slice fa0 len0 cap0, .int .i64 mn0, .int .i64 mg0] 24)).alloc (.cells #[.slice fa1 len1 cap1, .int .i64 mn1, .int .i64 mg1] 24)) fa0 F) := hA.fr F0 (by simp)
  have HB : Hid (FAt B ((w.alloc (.cells #[.slice fa0 len0 cap0, .int .i64 mn0, .int .i64 mg0] 24)).alloc (.cells #[.slice fa1 len1 cap1, .int .i64 mn1, .int .i64 mg1] 24)) fa1 G) := hB.fr F0 (by simp)
  have HF : Hid (Fr [] w ((w.alloc (.cells #[.slice fa0 len0 cap0, .int .i64 mn0, .int .i64 mg0] 24)).alloc (.cells #[.slice fa1 len1 cap1, .int .i64 mn1, .int .i64 mg1] 24))) := F0
  have HLF : Hid (F.length = len0) := hF
  have HLG : Hid (G.length = len1) := hG
  have HE : Hid (cdEq F mn0 mg0 G mn1 mg1 = (mn0 == mn1 && mg0 == mg1 && fusEq F G)) := rfl
  have l0 : (len0 : Int) ≤ 20000000000000 := by omega
  have l1 : (len1 : Int) ≤ 20000000000000 := by omega
  clear F0 c1 hA hB hF hG
  by_cases e0 : len0 = len1
  · subst e0
    by_cases e1 : mn0 = mn1
    · subst e1
      by_cases e2 : mg0 = mg1
      · subst e2
        have HR : Hid (cdEq F mn0 mg0 G mn0 mg0 = fusEq F G) := by unfold Hid; rw [HE.out]; simp
        clear HE
        go_enter Tryd.func22, Tryd.ntmps22
        go_wp2
        generalize (w.alloc (.cells #[.slice fa0 len0 cap0, .int .i64 mn0, .int .i64 mg0] 24)).alloc (.cells #[.slice fa1 len0 cap1, .int .i64 mn0, .int .i64 mg0] 24) = W0 at *
        go_loopw [5, 6, 7, 8, 9, 10, 35] (fun _ _ _ _ _ _ ix wr => ∃ p : Nat, p ≤ len0 ∧ ix = .int .i64 p ∧ Fr [] W0 wr ∧ Hid (fusEq (F.drop p) (G.drop p) = fusEq F G)) (fun _ _ _ _ _ _ ix _ => len0 - (intOf ix).toNat)
        case atStart => exact ⟨0, Nat.zero_le _, rfl, Fr.refl _ _, rfl⟩
        case round =>
          obtain ⟨p, hp, rfl, fw, he⟩ := hrel
          have a1 := (fw.block _ (Array.getElem?_eq_some_iff.1 ba).1 (by simp)).trans ba
          have a2 := (fw.block _ (Array.getElem?_eq_some_iff.1 bb).1 (by simp)).trans bb
          have s0 : wr.cell? ⟨w.heap.size, 0, none⟩ = some (.slice fa0 len0 cap0) := at_cells a1 0 rfl
          have t0 : wr.cell? ⟨w.heap.size + 1, 0, none⟩ = some (.slice fa1 len0 cap1) := at_cells a2 0 rfl
          by_cases hlt : p < len0
          · have hx : F[p]? = some (F[p]'(by rw [HLF.out]; exact hlt)) := List.getElem?_eq_getElem _
            have hy : G[p]? = some (G[p]'(by rw [HLG.out]; exact hlt)) := List.getElem?_eq_getElem _
            generalize F[p]'(by rw [HLF.out]; exact hlt) = f at hx
            generalize G[p]'(by rw [HLG.out]; exact hlt) = g at hy
            obtain ⟨b1, o1, rfl, hb1, fc⟩ := (HA.out.fr fw (by simp)) p f hx
            obtain ⟨b2, o2, rfl, hb2, gc⟩ := (HB.out.fr fw (by simp)) p g hy
            have HS : Hid _ := fusEq_at hx hy
            have hpI : (p : Int) < len0 := by omega
            clear hx hy a1 a2
            have n1 := World.block_lt_of_cell? wr _ fc.c0
            have n2 := World.block_lt_of_cell? wr _ gc.c0
            have n3 := World.block_lt_of_cell? wr _ s0
            have n4 := World.block_lt_of_cell? wr _ t0
            simp only at n1 n2 n3 n4
            have m1 : b1 ≠ wr.heap.size := by omega
            have m2 : b2 ≠ wr.heap.size := by omega
            have m3 : w.heap.size ≠ wr.heap.size := by omega
            have m4 : w.heap.size + 1 ≠ wr.heap.size := by omega
            obtain ⟨p0, p1, p2, p3, okf⟩ := fc
            obtain ⟨q0, q1, q2, q3, okg⟩ := gc
            go_upto_region 6 with fail
            have OKF : Hid (∀ w', Fr [] wr w' → FuOk B w' f) := fun w' f' => okf.fr f' (by simp)
            have OKG : Hid (∀ w', Fr [] wr w' → FuOk B w' g) := fun w' f' => okg.fr f' (by simp)
            clear okf okg
            unfold Fu.arr at *
            go_cut [6, 7] from 36 to 134 (fun s6 s7 wc => ∃ kf kg : Nat, s6 = .pointer (some ⟨kf, 0, none⟩) ∧ s7 = .pointer (some ⟨kg, 0, none⟩) ∧ Fr [] wr wc ∧ wc.heap[kf]? = some (.cells #[.string f.name, .int .i64 f.ps, .int .i64 f.rs, .slice f.ca f.code.length f.cc] 34 (0, 0)) ∧ wc.heap[kg]? = some (.cells #[.string g.name, .int .i64 g.ps, .int .i64 g.rs, .slice g.ca g.code.length g.cc] 34 (0, 0)))
            case first =>
              go_region
              all_goals
                go_wp2_with fail
                go_meet
                case rel =>
                  first
                    | exact ⟨_, _, rfl, rfl, (((Fr.refl _ _).alloc _).alloc _).drew, ((((Fr.refl [] _).alloc _).block _ (by simp) (by simp)).trans (heap_alloc_new _ _)), blk2 _ _ _⟩
                    | exact ⟨_, _, rfl, rfl, (((Fr.refl _ _).alloc _).alloc _).drew, blk2 _ _ _, ((((Fr.refl [] _).alloc _).block _ (by simp) (by simp)).trans (heap_alloc_new _ _))⟩
            case rest =>
              obtain ⟨kf, kg, rfl, rfl, fc, bF, bG⟩ := hcut
              obtain ⟨wA, hwA⟩ : ∃ x : World, x = wc := ⟨_, rfl⟩
              subst hwA
              have HFW : Hid (Fr [] W0 wA) := fw.trans fc
              have OF : Hid (FuOk B wA f) := OKF.out _ fc
              have OG : Hid (FuOk B wA g) := OKG.out _ fc
              have HFU : Hid (fuEq f g = ((f.name.toList == g.name.toList) && f.ps == g.ps && f.rs == g.rs && insEq f.code g.code)) := rfl
              have kfl := OF.out.kl
              have kgl := OG.out.kl
              have kfI : (f.code.length : Int) ≤ 20000000000000 := by omega
              have kgI : (g.code.length : Int) ≤ 20000000000000 := by omega
              have HWW : Hid (Fr [] w W0) := HF.out
              clear OKF OKG p0 p1 p2 p3 q0 q1 q2 q3 s0 t0 m1 m2 m3 m4 n1 n2 n3 n4
              obtain ⟨fnm, fps, frs, fca, fcc, fcode⟩ := f
              obtain ⟨gnm, gps, grs, gca, gcc, gcode⟩ := g
              simp only at *
              have x0 : wA.cell? ⟨kf, 0, none⟩ = some (.string fnm) := at_cells bF 0 rfl
              have x1 : wA.cell? ⟨kf, 1, none⟩ = some (.int .i64 fps) := at_cells bF 1 rfl
              have x2 : wA.cell? ⟨kf, 2, none⟩ = some (.int .i64 frs) := at_cells bF 2 rfl
              have x3 : wA.cell? ⟨kf, 3, none⟩ = some (.slice fca fcode.length fcc) := at_cells bF 3 rfl
              have y0 : wA.cell? ⟨kg, 0, none⟩ = some (.string gnm) := at_cells bG 0 rfl
              have y1 : wA.cell? ⟨kg, 1, none⟩ = some (.int .i64 gps) := at_cells bG 1 rfl
              have y2 : wA.cell? ⟨kg, 2, none⟩ = some (.int .i64 grs) := at_cells bG 2 rfl
              have y3 : wA.cell? ⟨kg, 3, none⟩ = some (.slice gca gcode.length gcc) := at_cells bG 3 rfl
              cases g1 : (fnm.toList == gnm.toList) with
              | false =>
                have HNO : Hid (fusEq F G = false) := by unfold Hid; rw [← he.out, HS.out, HFU.out, g1]; rfl
                clear HFU HS
                go_wp2
                go_ret
                exact ⟨by rw [HR.out, HNO.out]; rfl, HWW.out.trans HFW.out⟩
              | true =>
                by_cases g2 : fps = gps
                · subst g2
                  by_cases g3 : frs = grs
                  · subst g3
                    by_cases g4 : fcode.length = gcode.length
                    · have d4 : ((fcode.length : Int) != (gcode.length : Int)) = false := by simp; omega
                      have d5 : ((fcode.length : Int) == (gcode.length : Int)) = true := by simp; omega
                      have d2' : (fps == fps) = true := by simp
                      have HG4 : Hid (fcode.length = gcode.length) := g4
                      have HFU2 : Hid (fuEq ⟨fnm, fps, frs, fca, fcc, fcode⟩ ⟨gnm, fps, frs, gca, gcc, gcode⟩ = insEq fcode gcode) := by unfold Hid; rw [HFU.out, g1]; simp
                      clear HFU g4
                      have HFU := HFU2
                      clear HFU2
                      go_wp2
                      go_loopw [8, 9, 10, 79] (fun _ _ _ ix wq => ∃ q : Nat, q ≤ fcode.length ∧ ix = .int .i64 q ∧ Fr [] wA wq ∧ Hid (insEq (fcode.drop q) (gcode.drop q) = insEq fcode gcode)) (fun _ _ _ ix _ => fcode.length - (intOf ix).toNat)
                      case atStart => exact ⟨0, Nat.zero_le _, rfl, Fr.refl _ _, rfl⟩
                      case round =>
                        obtain ⟨q, hq, rfl, fq, hq'⟩ := hrel
                        have aF := (fq.block _ (Array.getElem?_eq_some_iff.1 bF).1 (by simp)).trans bF
                        have aG := (fq.block _ (Array.getElem?_eq_some_iff.1 bG).1 (by simp)).trans bG
                        by_cases hqt : q < fcode.length
                        · have hx2 : fcode[q]? = some (fcode[q]'hqt) := List.getElem?_eq_getElem _
                          have hy2 : gcode[q]? = some (gcode[q]'(by rw [← HG4.out]; exact hqt)) := List.getElem?_eq_getElem _
                          generalize fcode[q]'hqt = x at hx2
                          generalize gcode[q]'(by rw [← HG4.out]; exact hqt) = y at hy2
                          obtain ⟨b3, o3, rfl, hb3, xc⟩ := (OF.out.fr fq (by simp)).k q x hx2
                          obtain ⟨b4, o4, rfl, hb4, yc⟩ := (OG.out.fr fq (by simp)).k q y hy2
                          have HS2 : Hid _ := insEq_at hx2 hy2
                          have hqI : (q : Int) < fcode.length := by omega
                          have hqI2 : (q : Int) < gcode.length := by have := HG4.out; omega
                          have z3 : wr.cell? ⟨kf, 3, none⟩ = some (.slice (some ⟨b3, o3, none⟩) fcode.length fcc) := at_cells aF 3 rfl
                          have z4 : wr.cell? ⟨kg, 3, none⟩ = some (.slice (some ⟨b4, o4, none⟩) gcode.length gcc) := at_cells aG 3 rfl
                          have n1 := World.block_lt_of_cell? wr _ xc.c0
                          have n2 := World.block_lt_of_cell? wr _ yc.c0
                          have n3 := World.block_lt_of_cell? wr _ z3
                          have n4 := World.block_lt_of_cell? wr _ z4
                          simp only at n1 n2 n3 n4
                          have m1 : b3 ≠ wr.heap.size := by omega
                          have m2 : b4 ≠ wr.heap.size := by omega
                          have m3 : kf ≠ wr.heap.size := by omega
                          have m4 : kg ≠ wr.heap.size := by omega
                          have OX : Hid (InOk B wr x) := xc.ok
                          have OY : Hid (InOk B wr y) := yc.ok
                          obtain ⟨u0', u1', u2', u3', u4', u5', _⟩ := xc
                          obtain ⟨v0', v1', v2', v3', v4', v5', _⟩ := yc
                          clear hx2 hy2 aF aG x0 x1 x2 x3 y0 y1 y2 y3
                          go_upto_region 12 with fail
                          go_cut [9, 10] from 80 to 133 (fun s9 s10 wd => ∃ kx ky : Nat, s9 = .pointer (some ⟨kx, 0, none⟩) ∧ s10 = .pointer (some ⟨ky, 0, none⟩) ∧ Fr [] wr wd ∧ wd.heap[kx]? = some (.cells #[.int .i64 x.op, .int .i64 x.a, .int .i64 x.b, .int .i64 x.c, .int .i64 x.k, .slice x.la x.l.length x.lc] 39 (0, 0)) ∧ wd.heap[ky]? = some (.cells #[.int .i64 y.op, .int .i64 y.a, .int .i64 y.b, .int .i64 y.c, .int .i64 y.k, .slice y.la y.l.length y.lc] 39 (0, 0)))
                          case first =>
                            go_region
                            all_goals
                              go_wp2_with fail
                              go_meet
                              case rel =>
                                first
                                  | exact ⟨_, _, rfl, rfl, (((Fr.refl _ _).alloc _).alloc _).drew, ((((Fr.refl [] _).alloc _).block _ (by simp) (by simp)).trans (heap_alloc_new _ _)), blk2 _ _ _⟩
                                  | exact ⟨_, _, rfl, rfl, (((Fr.refl _ _).alloc _).alloc _).drew, blk2 _ _ _, ((((Fr.refl [] _).alloc _).block _ (by simp) (by simp)).trans (heap_alloc_new _ _))⟩
                          case rest =>
                            obtain ⟨kx, ky, rfl, rfl, fd, bX, bY⟩ := hcut
                            skip
                            have HWQ : Hid (Fr [] wA wc) := fq.trans fd
                            have HW2 : Hid (Fr [] w wc) := HWW.out.trans (HFW.out.trans HWQ.out)
                            have C := rints_any B wc x.l y.l x.la y.la x.l.length y.l.length x.lc y.lc rfl rfl (by have := OX.out.kl; unfold maxLen; omega) (by have := OY.out.kl; unfold maxLen; omega) (OX.out.k.fr fd (by simp)) (OY.out.k.fr fd (by simp))
                            have x0 : wc.cell? ⟨kx, 0, none⟩ = some (.int .i64 x.op) := at_cells bX 0 rfl
                            have x1 : wc.cell? ⟨kx, 1, none⟩ = some (.int .i64 x.a) := at_cells bX 1 rfl
                            have x2 : wc.cell? ⟨kx, 2, none⟩ = some (.int .i64 x.b) := at_cells bX 2 rfl
                            have x3 : wc.cell? ⟨kx, 3, none⟩ = some (.int .i64 x.c) := at_cells bX 3 rfl
                            have x4 : wc.cell? ⟨kx, 4, none⟩ = some (.int .i64 x.k) := at_cells bX 4 rfl
                            have x5 : wc.cell? ⟨kx, 5, none⟩ = some (.slice x.la x.l.length x.lc) := at_cells bX 5 rfl
                            have y0 : wc.cell? ⟨ky, 0, none⟩ = some (.int .i64 y.op) := at_cells bY 0 rfl
                            have y1 : wc.cell? ⟨ky, 1, none⟩ = some (.int .i64 y.a) := at_cells bY 1 rfl
                            have y2 : wc.cell? ⟨ky, 2, none⟩ = some (.int .i64 y.b) := at_cells bY 2 rfl
                            have y3 : wc.cell? ⟨ky, 3, none⟩ = some (.int .i64 y.c) := at_cells bY 3 rfl
                            have y4 : wc.cell? ⟨ky, 4, none⟩ = some (.int .i64 y.k) := at_cells bY 4 rfl
                            have y5 : wc.cell? ⟨ky, 5, none⟩ = some (.slice y.la y.l.length y.lc) := at_cells bY 5 rfl
                            clear u0' u1' u2' u3' u4' u5' v0' v1' v2' v3' v4' v5' z3 z4 n1 n2 n3 n4 m1 m2 m3 m4
                            by_cases h0 : x.op = y.op
                            · have e0 : (x.op == y.op) = true := by simpa using h0
                              have ee0 : (x.op != y.op) = false := by simpa using h0
                              by_cases h1 : x.a = y.a
                              · have e1 : (x.a == y.a) = true := by simpa using h1
                                have ee1 : (x.a != y.a) = false := by simpa using h1
                                by_cases h2 : x.b = y.b
                                · have e2 : (x.b == y.b) = true := by simpa using h2
                                  have ee2 : (x.b != y.b) = false := by simpa using h2
                                  by_cases h3 : x.c = y.c
                                  · have e3 : (x.c == y.c) = true := by simpa using h3
                                    have ee3 : (x.c != y.c) = false := by simpa using h3
                                    by_cases h4 : x.k = y.k
                                    · have e4 : (x.k == y.k) = true := by simpa using h4
                                      have ee4 : (x.k != y.k) = false := by simpa using h4
                                      cases hk : ksEq x.l y.l with
                                      | false =>
                                        have HNO : Hid (fusEq F G = false) := by
                                          unfold Hid
                                          rw [← he.out, HS.out, HFU.out, ← hq'.out, HS2.out, inEq_yes h0 h1 h2 h3 h4, hk]
                                          simp
                                        rw [hk] at C
                                        clear HFU HS HS2 h0 h1 h2 h3 h4 hk
                                        go_wp2_with (go_at_call 39; with_reducible (refine C.mono ?_); rintro e w9 ⟨rfl, f9⟩)
                                        go_ret
                                        exact ⟨by rw [HR.out, HNO.out]; rfl, HW2.out.trans f9⟩
                                      | true =>
                                        have HYE : Hid (insEq (fcode.drop (q + 1)) (gcode.drop (q + 1)) = insEq fcode gcode) := by
                                          unfold Hid
                                          rw [← hq'.out, HS2.out, inEq_yes h0 h1 h2 h3 h4, hk]
                                          simp
                                        rw [hk] at C
                                        clear HS2 h0 h1 h2 h3 h4 hk
                                        go_wp2_with (go_at_call 39; with_reducible (refine C.mono ?_); rintro e w9 ⟨rfl, f9⟩)
                                        have HF9 : Hid (Fr [] wA w9) := HWQ.out.trans f9
                                        go_roundw
                                        case rel => exact ⟨q + 1, hqt, by go_num, HF9.out, HYE⟩
                                        case measure => simp [intOf]; omega
                                    · have d4 : (x.k == y.k) = false := beq_int_false h4
                                      have dd4 : (x.k != y.k) = true := by simpa using h4
                                      have HNO : Hid (fusEq F G = false) := by
                                        unfold Hid
                                        rw [← he.out, HS.out, HFU.out, ← hq'.out, HS2.out, inEq_no (.inr (.inr (.inr (.inr h4))))]
                                        simp
                                      clear HFU HS HS2 h4 C
                                      go_wp2
                                      all_goals go_ret
                                      all_goals exact ⟨by rw [HR.out, HNO.out]; rfl, HW2.out⟩
                                  · have d3 : (x.c == y.c) = false := beq_int_false h3
                                    have dd3 : (x.c != y.c) = true := by simpa using h3
                                    have HNO : Hid (fusEq F G = false) := by
                                      unfold Hid
                                      rw [← he.out, HS.out, HFU.out, ← hq'.out, HS2.out, inEq_no (.inr (.inr (.inr (.inl h3))))]
                                      simp
                                    clear HFU HS HS2 h3 C
                                    go_wp2
                                    all_goals go_ret
                                    all_goals exact ⟨by rw [HR.out, HNO.out]; rfl, HW2.out⟩
                                · have d2 : (x.b == y.b) = false := beq_int_false h2
                                  have dd2 : (x.b != y.b) = true := by simpa using h2
                                  have HNO : Hid (fusEq F G = false) := by
                                    unfold Hid
                                    rw [← he.out, HS.out, HFU.out, ← hq'.out, HS2.out, inEq_no (.inr (.inr (.inl h2)))]
                                    simp
                                  clear HFU HS HS2 h2 C
                                  go_wp2
                                  all_goals go_ret
                                  all_goals exact ⟨by rw [HR.out, HNO.out]; rfl, HW2.out⟩
                              · have d1 : (x.a == y.a) = false := beq_int_false h1
                                have dd1 : (x.a != y.a) = true := by simpa using h1
                                have HNO : Hid (fusEq F G = false) := by
                                  unfold Hid
                                  rw [← he.out, HS.out, HFU.out, ← hq'.out, HS2.out, inEq_no (.inr (.inl h1))]
                                  simp
                                clear HFU HS HS2 h1 C
                                go_wp2
                                all_goals go_ret
                                all_goals exact ⟨by rw [HR.out, HNO.out]; rfl, HW2.out⟩
                            · have d0 : (x.op == y.op) = false := beq_int_false h0
                              have dd0 : (x.op != y.op) = true := by simpa using h0
                              have HNO : Hid (fusEq F G = false) := by
                                unfold Hid
                                rw [← he.out, HS.out, HFU.out, ← hq'.out, HS2.out, inEq_no (.inl h0)]
                                simp
                              clear HFU HS HS2 h0 C
                              go_wp2
                              all_goals go_ret
                              all_goals exact ⟨by rw [HR.out, HNO.out]; rfl, HW2.out⟩
                        · have hqI : ¬ (q : Int) < fcode.length := by omega
                          have HEE : Hid (insEq fcode gcode = true) := by
                            unfold Hid
                            rw [← hq'.out, List.drop_of_length_le (by omega), List.drop_of_length_le (by have := HG4.out; omega)]
                            rfl
                          have HNX : Hid (fusEq (F.drop (p + 1)) (G.drop (p + 1)) = fusEq F G) := by
                            unfold Hid
                            rw [← he.out, HS.out, HFU.out, HEE.out]
                            rfl
                          have HGG : Hid (Fr [] W0 wr) := HFW.out.trans fq
                          clear HS HFU HEE aF aG
                          go_wp2
                          go_roundw
                          case rel => exact ⟨p + 1, hlt, by go_num, HGG.out, HNX⟩
                          case measure => simp [intOf]; omega
                    · have d4 : ((fcode.length : Int) != (gcode.length : Int)) = true := by simp; omega
                      have d5 : ((fcode.length : Int) == (gcode.length : Int)) = false := beq_int_false (by omega)
                      have HNO : Hid (fusEq F G = false) := by unfold Hid; rw [← he.out, HS.out, HFU.out, insEq_len _ _ g4]; simp
                      clear HFU HS g4
                      go_wp2
                      all_goals go_ret
                      all_goals exact ⟨by rw [HR.out, HNO.out]; rfl, HWW.out.trans HFW.out⟩
                  · have d3 : (frs == grs) = false := beq_int_false g3
                    have d33 : (frs != grs) = true := by simpa using g3
                    have HNO : Hid (fusEq F G = false) := by unfold Hid; rw [← he.out, HS.out, HFU.out, d3]; simp
                    clear HFU HS g3
                    go_wp2
                    all_goals go_ret
                    all_goals exact ⟨by rw [HR.out, HNO.out]; rfl, HWW.out.trans HFW.out⟩
                · have d3 : (fps == gps) = false := beq_int_false g2
                  have d33 : (fps != gps) = true := by simpa using g2
                  have HNO : Hid (fusEq F G = false) := by unfold Hid; rw [← he.out, HS.out, HFU.out, d3]; simp
                  clear HFU HS g2
                  go_wp2
                  all_goals go_ret
                  all_goals exact ⟨by rw [HR.out, HNO.out]; rfl, HWW.out.trans HFW.out⟩
          · have HEE : Hid (fusEq F G = true) := by
              unfold Hid
              rw [← he.out, List.drop_of_length_le (by rw [HLF.out]; omega), List.drop_of_length_le (by rw [HLG.out]; omega)]
              rfl
            have hpI : ¬ (p : Int) < len0 := by omega
            have HG : Hid (Fr [] w wr) := HF.out.trans fw
            clear HA HB s0 t0
            go_wp2
            go_ret
            exact ⟨by rw [HR.out, HEE.out]; rfl, HG.out⟩
      · have d2 : (mg0 == mg1) = false := by simpa using e2
        have HR : Hid (cdEq F mn0 mg0 G mn0 mg1 = false) := by unfold Hid; rw [HE.out, d2]; simp
        clear HE e2 HA HB
        go_enter Tryd.func22, Tryd.ntmps22
        go_wp2
        go_ret
        exact ⟨by rw [HR.out]; rfl, HF.out⟩
    · have d1 : (mn0 == mn1) = false := by simpa using e1
      have HR : Hid (cdEq F mn0 mg0 G mn1 mg1 = false) := by unfold Hid; rw [HE.out, d1]; simp
      clear HE e1 HA HB
      go_enter Tryd.func22, Tryd.ntmps22
      go_wp2
      go_ret
      exact ⟨by rw [HR.out]; rfl, HF.out⟩
  · have d0 : ((len0 : Int) == (len1 : Int)) = false := beq_int_false (by omega)
    have HR : Hid (cdEq F mn0 mg0 G mn1 mg1 = false) := by unfold Hid; rw [HE.out, fusEq_len F G (by rw [HLF.out, HLG.out]; exact e0)]; simp
    clear HE e0 HA HB
    go_enter Tryd.func22, Tryd.ntmps22
    go_wp2
    all_goals go_ret
    all_goals exact ⟨by rw [HR.out]; rfl, HF.out⟩
end Go.Proofs.YtdaealionicmjaaDoor
