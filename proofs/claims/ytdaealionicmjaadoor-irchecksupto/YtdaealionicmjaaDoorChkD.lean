/-
  What the document wants of an instruction's number; conditions: the code, the function and the instruction lie as told.
-/
import Derived.Test.YtdaealionicmjaaDoorChkC
import Derived.BigQuiet
namespace Go.Proofs.YtdaealionicmjaaDoor
open Go.RowKit
set_option linter.unusedVariables false
set_option linter.unusedSimpArgs false

set_option maxRecDepth 100000 in
set_option maxHeartbeats 4000000 in
theorem rnum_23 (B : Nat) (w : World) (F : List Fu) (fa : Option Addr) (len cap : Nat) (mn mg : Int) (f : Fu) (x : In) (p : Nat) (hop : x.op = 23) (hx : f.code[p]? = some x) (hf : FuOk B w f) (hF : FAt B w fa F) (hln : F.length = len) (hlm : len ≤ 20000000000000) :
    Calls Tryd.prog 43 #[.agg #[.slice fa len cap, .int .i64 mn, .int .i64 mg], .agg f.arr, .int .i64 p] w fun e w' => e = .returned (.bool (numR F mg f p x)) ∧ Fr [] w w' := by
  have F0 : Fr [] w ((w.alloc (.cells #[.slice fa len cap, .int .i64 mn, .int .i64 mg] 24)).alloc (.cells f.arr 34)) := ((Fr.refl _ _).alloc _).alloc _
  have c1 := heap_alloc_new w (.cells #[.slice fa len cap, .int .i64 mn, .int .i64 mg] 24)
  have bc := (((Fr.refl [] (w.alloc (.cells #[.slice fa len cap, .int .i64 mn, .int .i64 mg] 24))).alloc (.cells f.arr 34)).block _ (Array.getElem?_eq_some_iff.1 c1).1 (by simp)).trans c1
  have bf := blk2 w (.cells #[.slice fa len cap, .int .i64 mn, .int .i64 mg] 24) (.cells f.arr 34)
  have HX : Hid (FuOk B ((w.alloc (.cells #[.slice fa len cap, .int .i64 mn, .int .i64 mg] 24)).alloc (.cells f.arr 34)) f) := hf.fr F0 (by simp)
  have HFA : Hid (FAt B ((w.alloc (.cells #[.slice fa len cap, .int .i64 mn, .int .i64 mg] 24)).alloc (.cells f.arr 34)) fa F) := hF.fr F0 (by simp)
  have HF : Hid (Fr [] w ((w.alloc (.cells #[.slice fa len cap, .int .i64 mn, .int .i64 mg] 24)).alloc (.cells f.arr 34))) := F0
  have HLN : Hid (F.length = len) := hln
  have hfl := hf.kl
  have hflI : (f.code.length : Int) ≤ 20000000000000 := by omega
  have hplt : p < f.code.length := (List.getElem?_eq_some_iff.1 hx).1
  have hpI : (p : Int) < f.code.length := by omega
  have hlI : (len : Int) ≤ 20000000000000 := by omega
  obtain ⟨b, o, hca, hb, xc⟩ := HX.out.k p x hx
  obtain ⟨u0, u1, u2, u3, u4, u5, okx⟩ := xc
  have HCA : Hid (f.ca = some ⟨b, o, none⟩) := hca
  clear hca
  have HOX : Hid _ := okx
  have hxl := okx.kl
  have HNR : Hid (numR F mg f p x = numR F mg f p x) := rfl
  unfold Fu.arr at *
  clear F0 c1 hf hF hln hx okx
  obtain ⟨xop, xa, xb, xc, xk, xla, xlc, xl⟩ := x
  simp only at *
  have hxlI : (xl.length : Int) ≤ 20000000000000 := by omega
  subst hop
  go_enter Tryd.func43, Tryd.ntmps43
  go_upto_region 1 with fail
  generalize (w.alloc (.cells #[.slice fa len cap, .int .i64 mn, .int .i64 mg] 24)).alloc (.cells #[.string f.name, .int .i64 f.ps, .int .i64 f.rs, .slice f.ca f.code.length f.cc] 34) = W0 at *
  have n1 := World.block_lt_of_cell? W0 _ u0
  have n2 := (Array.getElem?_eq_some_iff.1 bc).1
  have n3 := (Array.getElem?_eq_some_iff.1 bf).1
  simp only at n1
  have m1 : b ≠ W0.heap.size := by omega
  have m2 : w.heap.size ≠ W0.heap.size := by omega
  have m3 : w.heap.size + 1 ≠ W0.heap.size := by omega
  have f3 : W0.cell? ⟨w.heap.size + 1, 3, none⟩ = some (.slice f.ca f.code.length f.cc) := at_cells bf 3 rfl
  rw [HCA.out] at f3
  go_upto_region 2 with fail
  have G1 : Fr [] W0 (W0.alloc (.cells #[.int .i64 23, .int .i64 xa, .int .i64 xb, .int .i64 xc, .int .i64 xk, .slice xla xl.length xlc] 39)) := (Fr.refl _ _).alloc _
  have bx := heap_alloc_new W0 (.cells #[.int .i64 23, .int .i64 xa, .int .i64 xb, .int .i64 xc, .int .i64 xk, .slice xla xl.length xlc] 39)
  have gc := (G1.block _ (Array.getElem?_eq_some_iff.1 bc).1 (by simp)).trans bc
  have gf := (G1.block _ (Array.getElem?_eq_some_iff.1 bf).1 (by simp)).trans bf
  have HG : Hid (Fr [] w (W0.alloc (.cells #[.int .i64 23, .int .i64 xa, .int .i64 xb, .int .i64 xc, .int .i64 xk, .slice xla xl.length xlc] 39))) := HF.out.trans G1
  have HFB : Hid (FAt B (W0.alloc (.cells #[.int .i64 23, .int .i64 xa, .int .i64 xb, .int .i64 xc, .int .i64 xk, .slice xla xl.length xlc] 39)) fa F) := HFA.out.fr G1 (by simp)
  clear G1 f3 m1 m2 m3 n1 n2 n3 u0 u1 u2 u3 u4 u5 bc bf HFA HF HX
  generalize W0.alloc (.cells #[.int .i64 23, .int .i64 xa, .int .i64 xb, .int .i64 xc, .int .i64 xk, .slice xla xl.length xlc] 39) = W1 at *
  have x0 : W1.cell? ⟨W0.heap.size, 0, none⟩ = some (.int .i64 23) := at_cells bx 0 rfl
  have x1 : W1.cell? ⟨W0.heap.size, 1, none⟩ = some (.int .i64 xa) := at_cells bx 1 rfl
  have x2 : W1.cell? ⟨W0.heap.size, 2, none⟩ = some (.int .i64 xb) := at_cells bx 2 rfl
  have x3 : W1.cell? ⟨W0.heap.size, 3, none⟩ = some (.int .i64 xc) := at_cells bx 3 rfl
  have x4 : W1.cell? ⟨W0.heap.size, 4, none⟩ = some (.int .i64 xk) := at_cells bx 4 rfl
  have x5 : W1.cell? ⟨W0.heap.size, 5, none⟩ = some (.slice xla xl.length xlc) := at_cells bx 5 rfl
  have f3 : W1.cell? ⟨w.heap.size + 1, 3, none⟩ = some (.slice f.ca f.code.length f.cc) := at_cells gf 3 rfl
  have d0 : W1.cell? ⟨w.heap.size, 0, none⟩ = some (.slice fa len cap) := at_cells gc 0 rfl
  have d2 : W1.cell? ⟨w.heap.size, 2, none⟩ = some (.int .i64 mg) := at_cells gc 2 rfl
  by_cases k0 : 0 ≤ xk
  · by_cases k1 : xk < (len : Int)
    · obtain ⟨q, rfl⟩ := Int.eq_ofNat_of_zero_le k0
      have hq : q < F.length := by have := HLN.out; omega
      have hg : F[q]? = some F[q] := List.getElem?_eq_getElem hq
      have hps : psAt F (q : Int) = (F[q]).ps := by unfold psAt; rw [Int.toNat_natCast, hg]
      generalize F[q] = g at *
      obtain ⟨gb, go, hfa, hgb, hgc⟩ := HFB.out q g hg
      have g1 := hgc.c1
      subst hfa
      clear hgc hq
      by_cases k2 : (xl.length : Int) = g.ps
      · have e2 : ((xl.length : Int) == g.ps) = true := by simpa using k2
        have HV : Hid (numR F mg f p ⟨23, xa, xb, xc, (q : Int), xla, xlc, xl⟩ = true) := by unfold Hid numR; simp only [HLN.out, hps]; first | (simp [k1, k2]; done) | (simp [k1, k2]; omega)
        clear hps hg
        go_wp2
        all_goals go_quiet (fail)
        all_goals go_wp2
        all_goals go_ret
        all_goals exact ⟨by rw [HV.out]; rfl, HG.out.drewN _⟩
      · have e2 : ((xl.length : Int) == g.ps) = false := beq_int_false k2
        have HV : Hid (numR F mg f p ⟨23, xa, xb, xc, (q : Int), xla, xlc, xl⟩ = false) := by unfold Hid numR; simp only [HLN.out, hps]; first | (simp [k1, k2]; done) | (simp [k1, k2]; omega)
        clear hps hg
        go_wp2
        all_goals go_quiet (fail)
        all_goals go_wp2
        all_goals go_ret
        all_goals exact ⟨by rw [HV.out]; rfl, HG.out.drewN _⟩
    · have k1' : (len : Int) ≤ xk := by omega
      have d1 : decide (xk < (len : Int)) = false := decide_eq_false k1
      have HV : Hid (numR F mg f p ⟨23, xa, xb, xc, xk, xla, xlc, xl⟩ = false) := by unfold Hid numR; simp only [HLN.out]; first | (simp [k0, k1]; done) | (simp [k0, k1]; omega)
      go_wp2
      all_goals go_quiet (fail)
      all_goals go_wp2
      all_goals go_ret
      all_goals exact ⟨by rw [HV.out]; rfl, HG.out.drewN _⟩
  · have k0' : xk < 0 := by omega
    have d1 : decide (0 ≤ xk) = false := decide_eq_false k0
    have HV : Hid (numR F mg f p ⟨23, xa, xb, xc, xk, xla, xlc, xl⟩ = false) := by unfold Hid numR; simp only [HLN.out]; first | (simp [k0]; done) | (simp [k0]; omega)
    go_wp2
    all_goals go_quiet (fail)
    all_goals go_wp2
    all_goals go_ret
    all_goals exact ⟨by rw [HV.out]; rfl, HG.out.drewN _⟩

set_option maxRecDepth 100000 in
set_option maxHeartbeats 4000000 in
theorem rnum_else (B : Nat) (w : World) (F : List Fu) (fa : Option Addr) (len cap : Nat) (mn mg : Int) (f : Fu) (x : In) (p : Nat) (hop : x.op ≠ 4 ∧ x.op ≠ 5 ∧ x.op ≠ 8 ∧ x.op ≠ 9 ∧ x.op ≠ 13 ∧ x.op ≠ 21 ∧ x.op ≠ 22 ∧ x.op ≠ 23 ∧ x.op ≠ 27) (hx : f.code[p]? = some x) (hf : FuOk B w f) (hF : FAt B w fa F) (hln : F.length = len) (hlm : len ≤ 20000000000000) :
    Calls Tryd.prog 43 #[.agg #[.slice fa len cap, .int .i64 mn, .int .i64 mg], .agg f.arr, .int .i64 p] w fun e w' => e = .returned (.bool (numR F mg f p x)) ∧ Fr [] w w' := by
  have F0 : Fr [] w ((w.alloc (.cells #[.slice fa len cap, .int .i64 mn, .int .i64 mg] 24)).alloc (.cells f.arr 34)) := ((Fr.refl _ _).alloc _).alloc _
  have c1 := heap_alloc_new w (.cells #[.slice fa len cap, .int .i64 mn, .int .i64 mg] 24)
  have bc := (((Fr.refl [] (w.alloc (.cells #[.slice fa len cap, .int .i64 mn, .int .i64 mg] 24))).alloc (.cells f.arr 34)).block _ (Array.getElem?_eq_some_iff.1 c1).1 (by simp)).trans c1
  have bf := blk2 w (.cells #[.slice fa len cap, .int .i64 mn, .int .i64 mg] 24) (.cells f.arr 34)
  have HX : Hid (FuOk B ((w.alloc (.cells #[.slice fa len cap, .int .i64 mn, .int .i64 mg] 24)).alloc (.cells f.arr 34)) f) := hf.fr F0 (by simp)
  have HFA : Hid (FAt B ((w.alloc (.cells #[.slice fa len cap, .int .i64 mn, .int .i64 mg] 24)).alloc (.cells f.arr 34)) fa F) := hF.fr F0 (by simp)
  have HF : Hid (Fr [] w ((w.alloc (.cells #[.slice fa len cap, .int .i64 mn, .int .i64 mg] 24)).alloc (.cells f.arr 34))) := F0
  have HLN : Hid (F.length = len) := hln
  have hfl := hf.kl
  have hflI : (f.code.length : Int) ≤ 20000000000000 := by omega
  have hplt : p < f.code.length := (List.getElem?_eq_some_iff.1 hx).1
  have hpI : (p : Int) < f.code.length := by omega
  have hlI : (len : Int) ≤ 20000000000000 := by omega
  obtain ⟨b, o, hca, hb, xc⟩ := HX.out.k p x hx
  obtain ⟨u0, u1, u2, u3, u4, u5, okx⟩ := xc
  have HCA : Hid (f.ca = some ⟨b, o, none⟩) := hca
  clear hca
  have HOX : Hid _ := okx
  have hxl := okx.kl
  have HNR : Hid (numR F mg f p x = numR F mg f p x) := rfl
  unfold Fu.arr at *
  clear F0 c1 hf hF hln hx okx
  obtain ⟨xop, xa, xb, xc, xk, xla, xlc, xl⟩ := x
  simp only at *
  have hxlI : (xl.length : Int) ≤ 20000000000000 := by omega
  go_enter Tryd.func43, Tryd.ntmps43
  go_upto_region 1 with fail
  generalize (w.alloc (.cells #[.slice fa len cap, .int .i64 mn, .int .i64 mg] 24)).alloc (.cells #[.string f.name, .int .i64 f.ps, .int .i64 f.rs, .slice f.ca f.code.length f.cc] 34) = W0 at *
  have n1 := World.block_lt_of_cell? W0 _ u0
  have n2 := (Array.getElem?_eq_some_iff.1 bc).1
  have n3 := (Array.getElem?_eq_some_iff.1 bf).1
  simp only at n1
  have m1 : b ≠ W0.heap.size := by omega
  have m2 : w.heap.size ≠ W0.heap.size := by omega
  have m3 : w.heap.size + 1 ≠ W0.heap.size := by omega
  have f3 : W0.cell? ⟨w.heap.size + 1, 3, none⟩ = some (.slice f.ca f.code.length f.cc) := at_cells bf 3 rfl
  rw [HCA.out] at f3
  go_upto_region 2 with fail
  have G1 : Fr [] W0 (W0.alloc (.cells #[.int .i64 xop, .int .i64 xa, .int .i64 xb, .int .i64 xc, .int .i64 xk, .slice xla xl.length xlc] 39)) := (Fr.refl _ _).alloc _
  have bx := heap_alloc_new W0 (.cells #[.int .i64 xop, .int .i64 xa, .int .i64 xb, .int .i64 xc, .int .i64 xk, .slice xla xl.length xlc] 39)
  have gc := (G1.block _ (Array.getElem?_eq_some_iff.1 bc).1 (by simp)).trans bc
  have gf := (G1.block _ (Array.getElem?_eq_some_iff.1 bf).1 (by simp)).trans bf
  have HG : Hid (Fr [] w (W0.alloc (.cells #[.int .i64 xop, .int .i64 xa, .int .i64 xb, .int .i64 xc, .int .i64 xk, .slice xla xl.length xlc] 39))) := HF.out.trans G1
  have HFB : Hid (FAt B (W0.alloc (.cells #[.int .i64 xop, .int .i64 xa, .int .i64 xb, .int .i64 xc, .int .i64 xk, .slice xla xl.length xlc] 39)) fa F) := HFA.out.fr G1 (by simp)
  clear G1 f3 m1 m2 m3 n1 n2 n3 u0 u1 u2 u3 u4 u5 bc bf HFA HF HX
  generalize W0.alloc (.cells #[.int .i64 xop, .int .i64 xa, .int .i64 xb, .int .i64 xc, .int .i64 xk, .slice xla xl.length xlc] 39) = W1 at *
  have x0 : W1.cell? ⟨W0.heap.size, 0, none⟩ = some (.int .i64 xop) := at_cells bx 0 rfl
  have x1 : W1.cell? ⟨W0.heap.size, 1, none⟩ = some (.int .i64 xa) := at_cells bx 1 rfl
  have x2 : W1.cell? ⟨W0.heap.size, 2, none⟩ = some (.int .i64 xb) := at_cells bx 2 rfl
  have x3 : W1.cell? ⟨W0.heap.size, 3, none⟩ = some (.int .i64 xc) := at_cells bx 3 rfl
  have x4 : W1.cell? ⟨W0.heap.size, 4, none⟩ = some (.int .i64 xk) := at_cells bx 4 rfl
  have x5 : W1.cell? ⟨W0.heap.size, 5, none⟩ = some (.slice xla xl.length xlc) := at_cells bx 5 rfl
  have f3 : W1.cell? ⟨w.heap.size + 1, 3, none⟩ = some (.slice f.ca f.code.length f.cc) := at_cells gf 3 rfl
  have d0 : W1.cell? ⟨w.heap.size, 0, none⟩ = some (.slice fa len cap) := at_cells gc 0 rfl
  have d2 : W1.cell? ⟨w.heap.size, 2, none⟩ = some (.int .i64 mg) := at_cells gc 2 rfl
  have e4 : (xop == 4) = false := beq_int_false (by omega)
  have e5 : (xop == 5) = false := beq_int_false (by omega)
  have e8 : (xop == 8) = false := beq_int_false (by omega)
  have e9 : (xop == 9) = false := beq_int_false (by omega)
  have e13 : (xop == 13) = false := beq_int_false (by omega)
  have e21 : (xop == 21) = false := beq_int_false (by omega)
  have e22 : (xop == 22) = false := beq_int_false (by omega)
  have e23 : (xop == 23) = false := beq_int_false (by omega)
  have e27 : (xop == 27) = false := beq_int_false (by omega)
  have HV : Hid (numR F mg f p ⟨xop, xa, xb, xc, xk, xla, xlc, xl⟩ = true) := by unfold Hid numR; simp [hop]
  clear hop
  go_wp2
  go_ret
  exact ⟨by rw [HV.out]; rfl, HG.out⟩

theorem rnumber_any (B : Nat) (w : World) (F : List Fu) (fa : Option Addr) (len cap : Nat) (mn mg : Int) (f : Fu) (x : In) (p : Nat) (hx : f.code[p]? = some x) (hf : FuOk B w f) (hF : FAt B w fa F) (hln : F.length = len) (hlm : len ≤ 20000000000000) :
    Calls Tryd.prog 43 #[.agg #[.slice fa len cap, .int .i64 mn, .int .i64 mg], .agg f.arr, .int .i64 p] w fun e w' => e = .returned (.bool (numR F mg f p x)) ∧ Fr [] w w' := by
  by_cases h4 : x.op = 4
  · exact rnum_4 B w F fa len cap mn mg f x p h4 hx hf hF hln hlm
  by_cases h5 : x.op = 5
  · exact rnum_5 B w F fa len cap mn mg f x p h5 hx hf hF hln hlm
  by_cases h8 : x.op = 8
  · exact rnum_8 B w F fa len cap mn mg f x p h8 hx hf hF hln hlm
  by_cases h9 : x.op = 9
  · exact rnum_9 B w F fa len cap mn mg f x p h9 hx hf hF hln hlm
  by_cases h13 : x.op = 13
  · exact rnum_13 B w F fa len cap mn mg f x p h13 hx hf hF hln hlm
  by_cases h21 : x.op = 21
  · exact rnum_21 B w F fa len cap mn mg f x p h21 hx hf hF hln hlm
  by_cases h22 : x.op = 22
  · exact rnum_22 B w F fa len cap mn mg f x p h22 hx hf hF hln hlm
  by_cases h23 : x.op = 23
  · exact rnum_23 B w F fa len cap mn mg f x p h23 hx hf hF hln hlm
  by_cases h27 : x.op = 27
  · exact rnum_27 B w F fa len cap mn mg f x p h27 hx hf hF hln hlm
  exact rnum_else B w F fa len cap mn mg f x p ⟨h4, h5, h8, h9, h13, h21, h22, h23, h27⟩ hx hf hF hln hlm
end Go.Proofs.YtdaealionicmjaaDoor
