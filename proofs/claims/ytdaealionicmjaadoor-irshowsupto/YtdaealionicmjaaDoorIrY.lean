/-
  How many instructions code has, and what is in them: the laws' own sum, which may wrap; conditions: the code lies as told.
-/
import Derived.Test.YtdaealionicmjaaDoorIrX
namespace Go.Proofs.YtdaealionicmjaaDoor
open Go.RowKit
set_option linter.unusedVariables false
set_option linter.unusedSimpArgs false

set_option maxRecDepth 100000 in
set_option maxHeartbeats 4000000 in
/-- The sum is some number: nothing is asked of it. -/
theorem size_some (B : Nat) (F : List Fu) (w : World) (fa : Option Addr) (len cap : Nat) (mn mg : Int) (hln : F.length = len) (hF : FAt B w fa F) (hlm : len ≤ 2600000000000) :
    Calls Tryd.prog 23 #[.agg #[.slice fa len cap, .int .i64 mn, .int .i64 mg]] w fun e w' => (∃ z : Int, e = .returned (.int .i64 z)) ∧ Fr [] w w' := by
  have HL : Hid (F.length = len) := hln
  have hlI : (len : Int) ≤ 2600000000000 := by omega
  have F0 : Fr [] w (w.alloc (.cells #[.slice fa len cap, .int .i64 mn, .int .i64 mg] 24)) := (Fr.refl _ _).alloc _
  clear hln
  go_enter Tryd.func23, Tryd.ntmps23
  go_wp2
  generalize w.alloc (.cells #[.slice fa len cap, .int .i64 mn, .int .i64 mg] 24) = W0 at *
  go_loopw [3, 5, 7, 11] (fun s _ _ ix wr => (∃ z : Int, s = .int .i64 z) ∧ Fr [] w wr ∧ ∃ p : Nat, p ≤ len ∧ ix = .int .i64 p) (fun _ _ _ ix _ => len - (intOf ix).toNat)
  case atStart => exact ⟨⟨0, rfl⟩, F0, 0, Nat.zero_le _, rfl⟩
  case round =>
    obtain ⟨⟨z, rfl⟩, fw, p, hp, rfl⟩ := hrel
    clear F0
    by_cases hlt : p < len
    · have hlt' : p < F.length := by rw [HL.out]; exact hlt
      have hx : F[p]? = some F[p] := List.getElem?_eq_getElem hlt'
      generalize F[p] = f at *
      obtain ⟨b, o, rfl, hb, hI⟩ := (hF.fr fw (by simp)) p f hx
      obtain ⟨i0, i1, i2, i3, ok⟩ := hI
      have hcl := ok.kl
      have hclI : (f.code.length : Int) ≤ 20000000000000 := by omega
      have hnl := ok.nl
      have hnlI : (f.name.size : Int) ≤ 140737488355328 := by omega
      have hpI : (p : Int) < len := by omega
      have F1 : Fr [] wr (wr.alloc (.cells f.arr 34)) := (Fr.refl _ _).alloc _
      have G1 : Fr [] w (wr.alloc (.cells f.arr 34)) := fw.trans F1
      have HO : Hid (FuOk B (wr.alloc (.cells f.arr 34)) f) := ok.fr F1 (by simp)
      clear ok hx F1
      obtain ⟨fnm, fps, frs, fca, fcc, fcode⟩ := f
      unfold Fu.arr at *
      simp only at *
      go_wp2
      generalize wr.alloc (.cells #[.string fnm, .int .i64 fps, .int .i64 frs, .slice fca fcode.length fcc] 34) = W1 at *
      go_loopw [3, 7, 29] (fun s _ ix wq => (∃ z : Int, s = .int .i64 z) ∧ Fr [] W1 wq ∧ ∃ q : Nat, q ≤ fcode.length ∧ ix = .int .i64 q) (fun _ _ ix _ => fcode.length - (intOf ix).toNat)
      case atStart => exact ⟨⟨_, rfl⟩, Fr.refl _ _, 0, Nat.zero_le _, rfl⟩
      case round =>
        obtain ⟨⟨z2, rfl⟩, fq, q, hq, rfl⟩ := hrel
        by_cases hqt : q < fcode.length
        · have hx : fcode[q]? = some fcode[q] := List.getElem?_eq_getElem hqt
          generalize fcode[q] = x at *
          obtain ⟨b2, o2, rfl, hb2, hI2⟩ := (HO.out.fr fq (by simp)).k q x hx
          obtain ⟨c0, c1, c2, c3, c4, c5, okx⟩ := hI2
          have hqI : (q : Int) < fcode.length := by omega
          have F3 : Fr [] W1 _ := fq.alloc (.cells #[.int .i64 x.op, .int .i64 x.a, .int .i64 x.b, .int .i64 x.c, .int .i64 x.k, .slice x.la x.l.length x.lc] 39)
          clear hx okx
          go_wp2
          go_roundw
          case rel => exact ⟨⟨_, rfl⟩, F3, q + 1, hqt, by go_num⟩
          case measure => simp [intOf]; omega
        · have HG : Hid (Fr [] w wr) := G1.trans fq
          have hqI : ¬ (q : Int) < fcode.length := by omega
          clear hlt'
          go_wp2
          go_roundw
          case rel => exact ⟨⟨_, rfl⟩, HG.out, p + 1, hlt, by go_num⟩
          case measure => simp [intOf]; omega
    · have hpI : ¬ (p : Int) < len := by omega
      go_wp2
      go_ret
      exact ⟨⟨z, rfl⟩, fw⟩

set_option maxRecDepth 100000 in
theorem few_some (B : Nat) (F : List Fu) (w : World) (fa : Option Addr) (len cap : Nat) (mn mg : Int) (hln : F.length = len) (hF : FAt B w fa F) (hlm : len ≤ 2600000000000) :
    Calls Tryd.prog 9 #[.agg #[.slice fa len cap, .int .i64 mn, .int .i64 mg]] w fun e w' => (∃ b : Bool, e = .returned (.bool b)) ∧ Fr [] w w' := by
  have F0 : Fr [] w (w.alloc (.cells #[.slice fa len cap, .int .i64 mn, .int .i64 mg] 24)) := (Fr.refl _ _).alloc _
  have C := size_some B F _ fa len cap mn mg hln (hF.fr F0 (by simp)) hlm
  clear hF hln
  go_enter Tryd.func9, Tryd.ntmps9
  go_wp2_with (go_at_call 23; refine C.mono ?_; rintro e w' ⟨⟨z, rfl⟩, f1⟩)
  go_ret
  exact ⟨⟨_, rfl⟩, F0.trans f1⟩
end Go.Proofs.YtdaealionicmjaaDoor
