/-
  How many instructions code has, and what is in them: the laws' own sum, which may wrap; conditions: the code lies as told.
-/
import Derived.Test.YtajdnakpljgkpaaDoorIrE
namespace Go.Proofs.YtajdnakpljgkpaaDoor
open Go.RowKit
set_option linter.unusedVariables false
set_option linter.unusedSimpArgs false

set_option maxRecDepth 100000 in
set_option maxHeartbeats 4000000 in
/-- The sum is some number: nothing is asked of it. -/
theorem size_some (B : Nat) (F : List Fu) (w : World) (fa : Option Addr) (len cap : Nat) (mn mg : Int) (hln : F.length = len) (hF : FAt B w fa F) (hlm : len ≤ 2600000000000) :
    Calls Tryd.prog 14 #[.agg #[.slice fa len cap, .int .i64 mn, .int .i64 mg]] w fun e w' => (∃ z : Int, e = .returned (.int .i64 z)) ∧ Fr [] w w' := by
  have HL : Hid (F.length = len) := hln
  have hlI : (len : Int) ≤ 2600000000000 := by omega
  have F0 : Fr [] w (w.alloc (.cells #[.slice fa len cap, .int .i64 mn, .int .i64 mg] 34)) := (Fr.refl _ _).alloc _
  clear hln
  go_enter Tryd.func14, Tryd.ntmps14
  go_wp2
  generalize w.alloc (.cells #[.slice fa len cap, .int .i64 mn, .int .i64 mg] 34) = W0 at *
  go_loopw [3, 5, 7, 11] (fun s _ _ ix wr => (∃ z : Int, s = .int .i64 z) ∧ Fr [] w wr ∧ ∃ p : Nat, p ≤ len ∧ ix = .int .i64 p) (fun _ _ _ ix _ => len - (intOf ix).toNat)
  case atStart => exact ⟨⟨0, rfl⟩, F0, 0, Nat.zero_le _, rfl⟩
  case round =>
    obtain ⟨⟨z, rfl⟩, fw, p, hp, rfl⟩ := hrel
    clear F0
    by_cases hlt : p < len
    · have hlt' : p < F.length := by rw [HL.out]; exact hlt
      have hx : F[p]? = some F[p] := List.getElem?_eq_getElem hlt'
      generalize F[p] = f at *
      obtain ⟨b, o, rfl, hb, hI⟩ := (hF.fr fw (by simp)) p f hx
      obtain ⟨i0, i1, i2, i3, ok⟩ := hI
      have hcl := ok.kl
      have hclI : (f.code.length : Int) ≤ 20000000000000 := by omega
      have hnl := ok.nl
      have hnlI : (f.name.size : Int) ≤ 140737488355328 := by omega
      have hpI : (p : Int) < len := by omega
      have F1 : Fr [] wr (wr.alloc (.cells f.arr 24)) := (Fr.refl _ _).alloc _
      have G1 : Fr [] w (wr.alloc (.cells f.arr 24)) := fw.trans F1
      have HO : Hid (FuOk B (wr.alloc (.cells f.arr 24)) f) := ok.fr F1 (by simp)
      clear ok hx F1
      obtain ⟨fnm, fps, frs, fca, fcc, fcode⟩ := f
      unfold Fu.arr at *
      simp only at *
      go_wp2
      generalize wr.alloc (.cells #[.string fnm, .int .i64 fps, .int .i64 frs, .slice fca fcode.length fcc] 24) = W1 at *
      go_loopw [3, 7, 29] (fun s _ ix wq => (∃ z : Int, s = .int .i64 z) ∧ Fr [] W1 wq ∧ ∃ q : Nat, q ≤ fcode.length ∧ ix = .int .i64 q) (fun _ _ ix _ => fcode.length - (intOf ix).toNat)
      case atStart => exact ⟨⟨_, rfl⟩, Fr.refl _ _, 0, Nat.zero_le _, rfl⟩
      case round =>
        obtain ⟨⟨z2, rfl⟩, fq, q, hq, rfl⟩ := hrel
        by_cases hqt : q < fcode.length
        · have hx : fcode[q]? = some fcode[q] := List.getElem?_eq_getElem hqt
          generalize fcode[q] = x at *
          obtain ⟨b2, o2, rfl, hb2, hI2⟩ := (HO.out.fr fq (by simp)).k q x hx
          obtain ⟨c0, c1, c2, c3, c4, c5, okx⟩ := hI2
          have hqI : (q : Int) < fcode.length := by omega
          have F3 : Fr [] W1 _ := fq.alloc (.cells #[.int .i64 x.op, .int .i64 x.a, .int .i64 x.b, .int .i64 x.c, .int .i64 x.k, .slice x.la x.l.length x.lc] 59)
          clear hx okx
          go_wp2
          go_roundw
          case rel => exact ⟨⟨_, rfl⟩, F3, q + 1, hqt, by go_num⟩
          case measure => simp [intOf]; omega
        · have HG : Hid (Fr [] w wr) := G1.trans fq
          have hqI : ¬ (q : Int) < fcode.length := by omega
          clear hlt'
          go_wp2
          go_roundw
          case rel => exact ⟨⟨_, rfl⟩, HG.out, p + 1, hlt, by go_num⟩
          case measure => simp [intOf]; omega
    · have hpI : ¬ (p : Int) < len := by omega
      go_wp2
      go_ret
      exact ⟨⟨z, rfl⟩, fw⟩

theorem one_fu (W : World) (f : Fu) (B : Nat) (hf : FuOk B W f) (hB : B ≤ W.heap.size) : FAt (W.alloc (.cells f.arr 24)).heap.size (W.alloc (.cells f.arr 24)) (some ⟨W.heap.size, 0, none⟩) [f] := by
  intro i g hg
  have hb := heap_alloc_new W (.cells f.arr 24)
  have f1 : Fr [] W (W.alloc (.cells f.arr 24)) := (Fr.refl _ _).alloc _
  match i, hg with
  | 0, hg =>
    simp at hg
    subst hg
    refine ⟨W.heap.size, 0, rfl, by simp, at_cells hb 0 rfl, at_cells hb 1 rfl, at_cells hb 2 rfl, at_cells hb 3 rfl, ?_⟩
    have hk := hf.fr f1 (by simp)
    refine ⟨fun j x hx => ?_, hk.nl, hk.kl, hk.kc, hk.kn⟩
    obtain ⟨b, o, e, hlt, hc⟩ := hk.k j x hx
    refine ⟨b, o, e, by simp; omega, hc.c0, hc.c1, hc.c2, hc.c3, hc.c4, hc.c5, ⟨hc.ok.k.up (by simp; omega), hc.ok.kl, hc.ok.kc, hc.ok.kn⟩⟩

end Go.Proofs.YtajdnakpljgkpaaDoor
