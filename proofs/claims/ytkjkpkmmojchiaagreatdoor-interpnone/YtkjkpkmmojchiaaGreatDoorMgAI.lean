/-
  Texts of the proof, in their order: MbI, MbW; conditions: as each theorem says.
-/
import Derived.Test.YtkjkpkmmojchiaaGreatDoorMgAH
namespace Go.Proofs.YtkjkpkmmojchiaaGreatDoor
open Go.RowKit
set_option linter.unusedVariables false
set_option linter.unusedSimpArgs false

set_option maxRecDepth 100000 in
set_option maxHeartbeats 8000000 in
theorem awake_any (w : World) (T : Tabs w) : Calls Tryz.prog 8 #[] w fun e w' => e = .returned (.bool true) ∧ Fr [] w w' := by
  have C1 := code_any w
  have HT : Hid (Tabs w) := T
  clear T
  go_enter Tryz.func8, Tryz.ntmps8
  go_wp2_with fail
  with_reducible (refine C1.mono ?_)
  rintro e W1 ⟨N, M, rfl, X1, f1⟩
  have C2 := ex_run W1 (HT.out.fr f1 (by simp)) X1
  have HF1 : Hid (Fr [] w W1) := f1
  clear C1 X1 f1
  go_wp2_with fail
  with_reducible (refine C2.mono ?_)
  rintro e W2 ⟨oa, oc, hb, rfl, f2⟩
  have HF2 : Hid (Fr [] w W2) := HF1.out.trans f2
  have b2 := heap_alloc_new W2 (.cells #[.int .i64 0, .int .i64 0, .int .i64 7, .int .i64 0, .slice oa 1 oc, .int .i64 0, .int .i64 0, .int .i64 0] 35)
  have f3 : Fr [] W2 (W2.alloc (.cells #[.int .i64 0, .int .i64 0, .int .i64 7, .int .i64 0, .slice oa 1 oc, .int .i64 0, .int .i64 0, .int .i64 0] 35)) := (Fr.refl _ _).alloc _
  clear C2 f2
  go_upto_region 2 with fail
  generalize W2.alloc (.cells #[.int .i64 0, .int .i64 0, .int .i64 7, .int .i64 0, .slice oa 1 oc, .int .i64 0, .int .i64 0, .int .i64 0] 35) = W3 at *
  have HF3 : Hid (Fr [] w W3) := HF2.out.trans f3
  have HB3 : Hid (W3.heap[W2.heap.size]? = some (.cells #[.int .i64 0, .int .i64 0, .int .i64 7, .int .i64 0, .slice oa 1 oc, .int .i64 0, .int .i64 0, .int .i64 0] 35 (0, 0))) := b2
  have C3 := code_any W3
  clear b2 f3
  go_wp2_with fail
  with_reducible (refine C3.mono ?_)
  rintro e W4 ⟨N2, M2, rfl, X4, f4⟩
  have HF4 : Hid (Fr [] w W4) := HF3.out.trans f4
  have HB4 : Hid (W4.heap[W2.heap.size]? = some (.cells #[.int .i64 0, .int .i64 0, .int .i64 7, .int .i64 0, .slice oa 1 oc, .int .i64 0, .int .i64 0, .int .i64 0] 35 (0, 0))) := (f4.block _ (Array.getElem?_eq_some_iff.1 HB3.out).1 (by simp)).trans HB3.out
  have C4 := ex_new W4 (HT.out.fr HF4.out (by simp)) X4
  clear C3 X4 f4
  go_wp2_with fail
  with_reducible (refine C4.mono ?_)
  rintro e W5 ⟨P, B, rfl, M5, hB5, f5, ft5⟩
  have HF5 : Hid (Fr [] w W5) := HF4.out.trans f5
  have b5 := (f5.block _ (Array.getElem?_eq_some_iff.1 HB4.out).1 (by simp)).trans HB4.out
  have q0 : W5.cell? ⟨W2.heap.size, 0, none⟩ = some _ := at_cells b5 0 rfl
  have q2 : W5.cell? ⟨W2.heap.size, 2, none⟩ = some _ := at_cells b5 2 rfl
  have q4 : W5.cell? ⟨W2.heap.size, 4, none⟩ = some _ := at_cells b5 4 rfl
  have HM5 : Hid (MAt W5 B P exC exS0 0) := M5
  have HBB : Hid (B ≤ W5.heap.size ∧ ∀ k ∈ footM P, w.heap.size ≤ k) := ⟨hB5, fun k hk => Nat.le_trans HF4.out.size (ft5 k hk)⟩
  obtain ⟨g, gc, v, t⟩ := M5.r.top (N := 0) (f := newF 0 1 (-1)) rfl rfl
  obtain ⟨fu, hfu, hrs, hcl, hcd, hFl⟩ := ex_fun M5.r
  obtain ⟨x, hx, hxa⟩ := ex_ins hcd (j := 0) rfl
  obtain ⟨fb, fo, ib, io, q⟩ := M5.r.ins (f := newF 0 1 (-1)) (i := 0) (j := 0) rfl rfl hfu hx
  have xl : x.l = [] := congrArg AI.l hxa
  have C5 := here_tells M5 rfl t (by omega) q (by omega) (by omega) (by rw [xl]; simp)
  have HXA : Hid (x.abs = ⟨1, 0, 0, 0, 7, []⟩) := hxa
  clear C4 M5 hB5 f5 ft5 b5 t q hfu hrs hcl hcd hFl hx hxa xl
  go_wp2_with fail
  with_reducible (refine C5.mono ?_)
  rintro e W6 ⟨y, rfl, hy, f6⟩
  have yo : y.op = 1 := by have := congrArg AI.op (hy.trans HXA.out); exact this
  have HF6 : Hid (Fr [] w W6) := HF5.out.trans f6
  have HM6 : Hid (MAt W6 B P exC exS0 0) := HM5.out.fr0 f6
  have HBB6 : Hid (B ≤ W6.heap.size) := Nat.le_trans HBB.out.1 f6.size
  unfold In.arr
  obtain ⟨yop, ya, yb, yc, yk, yla, ylc, yl⟩ := y
  simp only at yo
  subst yo
  simp only
  have b6 := heap_alloc_new W6 (.cells #[.int .i64 1, .int .i64 ya, .int .i64 yb, .int .i64 yc, .int .i64 yk, .slice yla yl.length ylc] 80)
  have f7 : Fr [] W6 (W6.alloc (.cells #[.int .i64 1, .int .i64 ya, .int .i64 yb, .int .i64 yc, .int .i64 yk, .slice yla yl.length ylc] 80)) := (Fr.refl _ _).alloc _
  clear C5 f6 hy q0 q2 q4
  go_upto_region 6 with fail
  generalize W6.alloc (.cells #[.int .i64 1, .int .i64 ya, .int .i64 yb, .int .i64 yc, .int .i64 yk, .slice yla yl.length ylc] 80) = W7 at *
  have p0 : W7.cell? ⟨W6.heap.size, 0, none⟩ = some (.int .i64 1) := at_cells b6 0 rfl
  have HF7 : Hid (Fr [] w W7) := HF6.out.trans f7
  have C7 := ex_step1 (HM6.out.fr0 f7)
  have HB7 : Hid (B ≤ W7.heap.size) := Nat.le_trans HBB6.out f7.size
  clear b6 f7
  go_wp2_with fail
  with_reducible (refine C7.mono ?_)
  rintro e W8 hD
  have he := hD.1
  subst he
  obtain ⟨_, P', m1, m2, _, _, _, m6, m7⟩ := hD
  have HF8 : Hid (Fr [] w W8) := HF7.out.next m6 (fun k hk => .inr (HBB.out.2 k hk))
  obtain ⟨g8, gc8, v8, t8⟩ := m1.r.top (N := 0) (f := (newF 0 1 (-1)).wr 0 0 7) rfl rfl
  have C8 := reg_in m1 t8 (by omega) (a := 0) (k := 0) (m := 7) rfl (by simp [newF, Fm.wr])
  rw [m2, show ((0 : Nat) : Int) = 0 from rfl] at C8
  have HM8 : Hid (MAt W8 B P' exC exS1 1) := m1
  have HM2 : Hid (P'.mb = P.mb) := m2
  clear C7 m1 m2 m6 m7 t8 p0
  go_wp2_with fail
  with_reducible (refine C8.mono ?_)
  rintro e W9 ⟨rfl, f9⟩
  have HF9 : Hid (Fr [] w W9) := HF8.out.trans f9
  have C9 := frames_mk (HM8.out.fr0 f9) (by simp [exS1, exS0, St.start, St.top]) (by intro f hf; simp [exS1, exS0, St.start, St.top, newF, Fm.wr] at hf; subst hf; simp)
  rw [HM2.out] at C9
  have hfd : ∀ w, (Instr.field 33 (.agg #[.int .i64 0, .int .i64 7]) 1).run Tryz.prog w = .ok (.int .i64 7) w := fun w => by kernel_rfl
  clear C8 f9
  go_wp2_with fail
  with_reducible (refine C9.mono ?_)
  rintro e W10 ⟨b, cc, gs, rfl, I⟩
  have HF10 : Hid (Fr [] w W10) := HF9.out.trans I.fr
  have hl : exS1.fr.length = 1 := rfl
  rw [hl]
  clear C9 I
  go_wp2
  go_ret
  exact ⟨rfl, HF10.out⟩
end Go.Proofs.YtkjkpkmmojchiaaGreatDoor

namespace Go.Proofs.YtkjkpkmmojchiaaGreatDoor
open Go.RowKit
set_option linter.unusedVariables false
set_option linter.unusedSimpArgs false

def zero48 : Array Value := #[.bool false, .nilFunc, .nilFunc, .nilFunc, .nilFunc, .nilFunc, .nilFunc, .nilFunc, .nilFunc, .nilFunc, .nilFunc, .nilFunc, .nilFunc, .nilFunc, .nilFunc, .nilFunc, .nilFunc, .nilFunc, .nilFunc, .nilFunc, .nilFunc, .nilFunc, .nilFunc, .nilFunc, .nilFunc, .nilFunc, .nilFunc, .nilFunc, .nilFunc, .nilFunc, .slice none 0 0, .int .i64 0, .int .i64 0, .slice none 0 0, .slice none 0 0, .int .i64 0, .int .i64 0, .pointer none, .slice none 0 0, .int .i64 0, .slice none 0 0, .int .i64 0, .int .i64 0, .bool false, .int .i64 0, .int .i64 0, .int .i64 0, .int .i64 0]
set_option maxRecDepth 100000 in
set_option maxHeartbeats 8000000 in
theorem interpNone_walk (k m n : Int) (w : World) (la : Option Addr) (ln lc : Nat) (T : Tabs w) : Calls Tryz.prog 7 #[.agg #[.int .i64 k, .int .i64 m], .int .i64 n, .slice la ln lc] w fun e w' => e = .returned (.bool true) ∧ Fr [] w w' := by
  have F0 : Fr [] w (w.alloc (.cells #[.int .i64 k, .int .i64 m] 33)) := (Fr.refl _ _).alloc _
  have b0 := heap_alloc_new w (.cells #[.int .i64 k, .int .i64 m] 33)
  have CA := awake_any _ (T.fr F0 (by simp))
  clear T
  go_enter Tryz.func7, Tryz.ntmps7
  go_upto_region 1 with fail
  generalize w.alloc (.cells #[.int .i64 k, .int .i64 m] 33) = W at *
  have HF0 : Hid (Fr [] w W) := F0
  have HB0 : Hid (W.heap[w.heap.size]? = some (.cells #[.int .i64 k, .int .i64 m] 33 (0, 0))) := b0
  clear F0 b0
  go_wp2_with fail
  with_reducible (refine CA.mono ?_)
  rintro e X ⟨rfl, fX⟩
  have HFX : Hid (Fr [] w X) := HF0.out.trans fX
  have HBX : Hid (X.heap[w.heap.size]? = some (.cells #[.int .i64 k, .int .i64 m] 33 (0, 0))) := (fX.block _ (Array.getElem?_eq_some_iff.1 HB0.out).1 (by simp)).trans HB0.out
  clear CA fX HF0 HB0
  by_cases hc : 100 < ln
  · have hcI : (100 : Int) < ln := by omega
    have hd : decide ((ln : Int) > 100) = true := by simpa using hcI
    go_wp2
    go_ret
    exact ⟨rfl, HFX.out⟩
  · have hd : decide ((ln : Int) > 100) = false := by simp; omega
    have FY : Fr [] X ((X.alloc (.cells zero48 77)).alloc (.cells #[.pointer none, .pointer (some ⟨X.heap.size, 0, none⟩)] 46)) := ((Fr.refl _ _).alloc _).alloc _
    have bz : ((X.alloc (.cells zero48 77)).alloc (.cells #[.pointer none, .pointer (some ⟨X.heap.size, 0, none⟩)] 46)).heap[X.heap.size]? = some (.cells zero48 77 (0, 0)) := keep_alloc (heap_alloc_new X _)
    have bp := blk2 X (.cells zero48 77) (.cells #[.pointer none, .pointer (some ⟨X.heap.size, 0, none⟩)] 46)
    have HY : Hid (Fr [] X ((X.alloc (.cells zero48 77)).alloc (.cells #[.pointer none, .pointer (some ⟨X.heap.size, 0, none⟩)] 46))) := FY
    have HZ : Hid (((X.alloc (.cells zero48 77)).alloc (.cells #[.pointer none, .pointer (some ⟨X.heap.size, 0, none⟩)] 46)).heap[X.heap.size]? = some (.cells zero48 77 (0, 0)) ∧ ((X.alloc (.cells zero48 77)).alloc (.cells #[.pointer none, .pointer (some ⟨X.heap.size, 0, none⟩)] 46)).heap[X.heap.size + 1]? = some (.cells #[.pointer none, .pointer (some ⟨X.heap.size, 0, none⟩)] 46 (0, 0))) := ⟨bz, bp⟩
    clear FY bz bp
    unfold zero48 at HY HZ
    have hne : ∀ w, (binOp .neq 33 (.agg #[.int .i64 0, .int .i64 0]) (.agg #[.int .i64 0, .int .i64 0])).run Tryz.prog w = .ok (.bool false) w := fun w => by kernel_rfl
    have hfd : ∀ w, (Instr.field 87 (.agg #[.string ⟨#[]⟩, .int .i64 0, .int .i64 0, .slice none 0 0]) 3).run Tryz.prog w = .ok (.slice none 0 0) w := fun w => by kernel_rfl
    go_wp2
    generalize (X.alloc (.cells #[.bool false, .nilFunc, .nilFunc, .nilFunc, .nilFunc, .nilFunc, .nilFunc, .nilFunc, .nilFunc, .nilFunc, .nilFunc, .nilFunc, .nilFunc, .nilFunc, .nilFunc, .nilFunc, .nilFunc, .nilFunc, .nilFunc, .nilFunc, .nilFunc, .nilFunc, .nilFunc, .nilFunc, .nilFunc, .nilFunc, .nilFunc, .nilFunc, .nilFunc, .nilFunc, .slice none 0 0, .int .i64 0, .int .i64 0, .slice none 0 0, .slice none 0 0, .int .i64 0, .int .i64 0, .pointer none, .slice none 0 0, .int .i64 0, .slice none 0 0, .int .i64 0, .int .i64 0, .bool false, .int .i64 0, .int .i64 0, .int .i64 0, .int .i64 0] 77)).alloc (.cells #[.pointer none, .pointer (some ⟨X.heap.size, 0, none⟩)] 46) = V at *
    have HFV : Hid (Fr [] w V) := HFX.out.trans HY.out
    have HBV : Hid (V.heap[w.heap.size]? = some (.cells #[.int .i64 k, .int .i64 m] 33 (0, 0))) := (HY.out.block _ (Array.getElem?_eq_some_iff.1 HBX.out).1 (by simp)).trans HBX.out
    have HNO : Hid (∀ (p : Nat) (wr : World), p < 2 → Fr [] V wr → ∃ q, wr.cell? ⟨X.heap.size + 1, p, none⟩ = some (.pointer q) ∧ NoM wr q) := by
      intro p wr hp f
      match p, hp with
      | 0, _ => exact ⟨none, f.cell1 (at_cells HZ.out.2 0 rfl) (by simp), no_nil _⟩
      | 1, _ => exact ⟨some ⟨X.heap.size, 0, none⟩, f.cell1 (at_cells HZ.out.2 1 rfl) (by simp), no_zero _ _ (f.cell1 (at_cells HZ.out.1 0 rfl) (by simp))⟩
    clear HY HZ HFX HBX hd hc
    go_loopw [27] (fun i wr => ∃ p : Nat, p ≤ 2 ∧ i = .int .i64 p ∧ Hid (Fr [] V wr)) (fun i _ => 2 - (intOf i).toNat)
    case atStart => exact ⟨0, by omega, rfl, Fr.refl _ _⟩
    case round =>
      obtain ⟨p, hp, rfl, FX⟩ := hrel
      by_cases hlt : p < 2
      · have hpI : (p : Int) < 2 := by omega
        obtain ⟨q, cq, nq⟩ := HNO.out p wr hlt FX.out
        have HQ : Hid (NoM wr q) := nq
        have bv := (FX.out.block _ (Array.getElem?_eq_some_iff.1 HBV.out).1 (by simp)).trans HBV.out
        have HV : Hid (wr.heap[w.heap.size]? = some (.cells #[.int .i64 k, .int .i64 m] 33 (0, 0))) := bv
        clear nq bv
        have F0 : Hid (Fr [] wr wr) := Fr.refl _ _
        have C := no_here (HQ.out.fr F0.out)
        go_wp2_with fail
        with_reducible (refine C.mono ?_)
        rintro e w33 ⟨rfl, f⟩
        have F33 : Hid (Fr [] wr w33) := F0.out.trans f
        clear C f
        have G33 : ∀ o, Hid (Fr [] wr (w33.alloc o)) := fun o => F33.out.alloc o
        go_upto_region 10 with fail
        generalize hA : w33.alloc (.cells #[.int .i64 0, .int .i64 0, .int .i64 0, .int .i64 0, .int .i64 0, .slice none 0 0] 80) = u33 at *
        have K33 : Hid (Fr [] wr u33) := by rw [← hA]; exact (G33 _).out
        clear hA G33
        have C := no_at (HQ.out.fr K33.out)
        go_wp2_with fail
        with_reducible (refine C.mono ?_)
        rintro e w20 ⟨rfl, f⟩
        have F20 : Hid (Fr [] wr w20) := K33.out.trans f
        clear C f
        have c0 : w20.cell? ⟨w.heap.size, 0, none⟩ = some (.int .i64 k) := F20.out.cell1 (at_cells HV.out 0 rfl) (by simp)
        have c1 : w20.cell? ⟨w.heap.size, 1, none⟩ = some (.int .i64 m) := F20.out.cell1 (at_cells HV.out 1 rfl) (by simp)
        have C := no_img (HQ.out.fr F20.out) k m
        go_wp2_with fail
        with_reducible (refine C.mono ?_)
        rintro e w31 ⟨rfl, f⟩
        have F31 : Hid (Fr [] wr w31) := F20.out.trans f
        clear C f c0 c1
        have G31 : ∀ o, Hid (Fr [] wr (w31.alloc o)) := fun o => F31.out.alloc o
        go_upto_region 12 with fail
        generalize hA : w31.alloc (.cells #[.int .i64 0, .int .i64 0] 33) = u31 at *
        have K31 : Hid (Fr [] wr u31) := by rw [← hA]; exact (G31 _).out
        clear hA G31
        have C := no_next (HQ.out.fr K31.out)
        go_wp2_with fail
        with_reducible (refine C.mono ?_)
        rintro e w17 ⟨rfl, f⟩
        have F17 : Hid (Fr [] wr w17) := K31.out.trans f
        clear C f
        have C := no_frames (HQ.out.fr F17.out)
        go_wp2_with fail
        with_reducible (refine C.mono ?_)
        rintro e w34 ⟨rfl, f⟩
        have F34 : Hid (Fr [] wr w34) := F17.out.trans f
        clear C f
        have C := no_set (HQ.out.fr F34.out) (.slice la ln lc)
        go_wp2_with fail
        with_reducible (refine C.mono ?_)
        rintro e w23 ⟨rfl, f⟩
        have F23 : Hid (Fr [] wr w23) := F34.out.trans f
        clear C f
        have C := no_reg (HQ.out.fr F23.out) n
        go_wp2_with fail
        with_reducible (refine C.mono ?_)
        rintro e w35 ⟨rfl, f⟩
        have F35 : Hid (Fr [] wr w35) := F23.out.trans f
        clear C f
        have C := no_step (HQ.out.fr F35.out)
        go_wp2_with fail
        with_reducible (refine C.mono ?_)
        rintro e w25 ⟨rfl, f⟩
        have F25 : Hid (Fr [] wr w25) := F35.out.trans f
        clear C f
        have c0 : w25.cell? ⟨w.heap.size, 0, none⟩ = some (.int .i64 k) := F25.out.cell1 (at_cells HV.out 0 rfl) (by simp)
        have c1 : w25.cell? ⟨w.heap.size, 1, none⟩ = some (.int .i64 m) := F25.out.cell1 (at_cells HV.out 1 rfl) (by simp)
        have C := no_out (HQ.out.fr F25.out) k m
        go_wp2_with fail
        with_reducible (refine C.mono ?_)
        rintro e w29 ⟨rfl, f⟩
        have F29 : Hid (Fr [] wr w29) := F25.out.trans f
        clear C f c0 c1
        have C := no_depth (HQ.out.fr F29.out)
        go_wp2_with fail
        with_reducible (refine C.mono ?_)
        rintro e w21 ⟨rfl, f⟩
        have F21 : Hid (Fr [] wr w21) := F29.out.trans f
        clear C f
        have C := no_func (HQ.out.fr F21.out) n
        go_wp2_with fail
        with_reducible (refine C.mono ?_)
        rintro e w36 ⟨rfl, f⟩
        have F36 : Hid (Fr [] wr w36) := F21.out.trans f
        clear C f
        go_wp2
        go_roundw
        case rel => exact ⟨p + 1, by omega, by go_num, FX.out.trans F36.out⟩
        case measure => simp [intOf]; omega
      · obtain rfl : p = 2 := by omega
        go_wp2
        go_ret
        exact ⟨rfl, HFV.out.trans FX.out⟩
end Go.Proofs.YtkjkpkmmojchiaaGreatDoor
