/-
  What the document wants of an instruction's number; conditions: the code, the function and the instruction lie as told.
-/
import Derived.Test.YtdaealionicmjaaDoorChkB
namespace Go.Proofs.YtdaealionicmjaaDoor
open Go.RowKit
set_option linter.unusedVariables false
set_option linter.unusedSimpArgs false

/-- What the document wants of an instruction's number. -/
def numR (F : List Fu) (mg : Int) (f : Fu) (i : Int) (x : In) : Bool :=
  if x.op = 4 then decide (1 ≤ x.k) && decide (x.k ≤ 12) else if x.op = 5 then decide (13 ≤ x.k) && decide (x.k ≤ 15)
  else if x.op = 8 ∨ x.op = 9 ∨ x.op = 13 then decide (0 ≤ x.k) && decide (x.k ≤ 1000) && decide (0 ≤ x.c) && decide (x.c ≤ 1000)
  else if x.op = 21 ∨ x.op = 22 then decide (0 ≤ x.k) && decide (x.k < (f.code.length : Int)) && (x.k != i)
  else if x.op = 23 then decide (0 ≤ x.k) && decide (x.k < (F.length : Int)) && ((x.l.length : Int) == psAt F x.k)
  else if x.op = 27 then decide (0 ≤ x.k) && decide (x.k < mg) && decide ((x.l.length : Int) ≤ 4) else true

set_option maxRecDepth 100000 in
set_option maxHeartbeats 4000000 in
theorem rnum_4 (B : Nat) (w : World) (F : List Fu) (fa : Option Addr) (len cap : Nat) (mn mg : Int) (f : Fu) (x : In) (p : Nat) (hop : x.op = 4) (hx : f.code[p]? = some x) (hf : FuOk B w f) (hF : FAt B w fa F) (hln : F.length = len) (hlm : len ≤ 20000000000000) :
    Calls Tryd.prog 43 #[.agg #[.slice fa len cap, .int .i64 mn, .int .i64 mg], .agg f.arr, .int .i64 p] w fun e w' => e = .returned (.bool (numR F mg f p x)) ∧ Fr [] w w' := by
  have F0 : Fr [] w ((w.alloc (.cells #[.slice fa len cap, .int .i64 mn, .int .i64 mg] 24)).alloc (.cells f.arr 34)) := ((Fr.refl _ _).alloc _).alloc _
  have c1 := heap_alloc_new w (.cells #[.slice fa len cap, .int .i64 mn, .int .i64 mg] 24)
  have bc := (((Fr.refl [] (w.alloc (.cells #[.slice fa len cap, .int .i64 mn, .int .i64 mg] 24))).alloc (.cells f.arr 34)).block _ (Array.getElem?_eq_some_iff.1 c1).1 (by simp)).trans c1
  have bf := blk2 w (.cells #[.slice fa len cap, .int .i64 mn, .int .i64 mg] 24) (.cells f.arr 34)
  have HX : Hid (FuOk B ((w.alloc (.cells #[.slice fa len cap, .int .i64 mn, .int .i64 mg] 24)).alloc (.cells f.arr 34)) f) := hf.fr F0 (by simp)
  have HFA : Hid (FAt B ((w.alloc (.cells #[.slice fa len cap, .int .i64 mn, .int .i64 mg] 24)).alloc (.cells f.arr 34)) fa F) := hF.fr F0 (by simp)
  have HF : Hid (Fr [] w ((w.alloc (.cells #[.slice fa len cap, .int .i64 mn, .int .i64 mg] 24)).alloc (.cells f.arr 34))) := F0
  have HLN : Hid (F.length = len) := hln
  have hfl := hf.kl
  have hflI : (f.code.length : Int) ≤ 20000000000000 := by omega
  have hplt : p < f.code.length := (List.getElem?_eq_some_iff.1 hx).1
  have hpI : (p : Int) < f.code.length := by omega
  have hlI : (len : Int) ≤ 20000000000000 := by omega
  obtain ⟨b, o, hca, hb, xc⟩ := HX.out.k p x hx
  obtain ⟨u0, u1, u2, u3, u4, u5, okx⟩ := xc
  have HCA : Hid (f.ca = some ⟨b, o, none⟩) := hca
  clear hca
  have HOX : Hid _ := okx
  have hxl := okx.kl
  have HNR : Hid (numR F mg f p x = numR F mg f p x) := rfl
  unfold Fu.arr at *
  clear F0 c1 hf hF hln hx okx
  obtain ⟨xop, xa, xb, xc, xk, xla, xlc, xl⟩ := x
  simp only at *
  have hxlI : (xl.length : Int) ≤ 20000000000000 := by omega
  subst hop
  go_enter Tryd.func43, Tryd.ntmps43
  go_upto_region 1 with fail
  generalize (w.alloc (.cells #[.slice fa len cap, .int .i64 mn, .int .i64 mg] 24)).alloc (.cells #[.string f.name, .int .i64 f.ps, .int .i64 f.rs, .slice f.ca f.code.length f.cc] 34) = W0 at *
  have n1 := World.block_lt_of_cell? W0 _ u0
  have n2 := (Array.getElem?_eq_some_iff.1 bc).1
  have n3 := (Array.getElem?_eq_some_iff.1 bf).1
  simp only at n1
  have m1 : b ≠ W0.heap.size := by omega
  have m2 : w.heap.size ≠ W0.heap.size := by omega
  have m3 : w.heap.size + 1 ≠ W0.heap.size := by omega
  have f3 : W0.cell? ⟨w.heap.size + 1, 3, none⟩ = some (.slice f.ca f.code.length f.cc) := at_cells bf 3 rfl
  rw [HCA.out] at f3
  go_upto_region 2 with fail
  have G1 : Fr [] W0 (W0.alloc (.cells #[.int .i64 4, .int .i64 xa, .int .i64 xb, .int .i64 xc, .int .i64 xk, .slice xla xl.length xlc] 39)) := (Fr.refl _ _).alloc _
  have bx := heap_alloc_new W0 (.cells #[.int .i64 4, .int .i64 xa, .int .i64 xb, .int .i64 xc, .int .i64 xk, .slice xla xl.length xlc] 39)
  have gc := (G1.block _ (Array.getElem?_eq_some_iff.1 bc).1 (by simp)).trans bc
  have gf := (G1.block _ (Array.getElem?_eq_some_iff.1 bf).1 (by simp)).trans bf
  have HG : Hid (Fr [] w (W0.alloc (.cells #[.int .i64 4, .int .i64 xa, .int .i64 xb, .int .i64 xc, .int .i64 xk, .slice xla xl.length xlc] 39))) := HF.out.trans G1
  have HFB : Hid (FAt B (W0.alloc (.cells #[.int .i64 4, .int .i64 xa, .int .i64 xb, .int .i64 xc, .int .i64 xk, .slice xla xl.length xlc] 39)) fa F) := HFA.out.fr G1 (by simp)
  clear G1 f3 m1 m2 m3 n1 n2 n3 u0 u1 u2 u3 u4 u5 bc bf HFA HF HX
  generalize W0.alloc (.cells #[.int .i64 4, .int .i64 xa, .int .i64 xb, .int .i64 xc, .int .i64 xk, .slice xla xl.length xlc] 39) = W1 at *
  have x0 : W1.cell? ⟨W0.heap.size, 0, none⟩ = some (.int .i64 4) := at_cells bx 0 rfl
  have x1 : W1.cell? ⟨W0.heap.size, 1, none⟩ = some (.int .i64 xa) := at_cells bx 1 rfl
  have x2 : W1.cell? ⟨W0.heap.size, 2, none⟩ = some (.int .i64 xb) := at_cells bx 2 rfl
  have x3 : W1.cell? ⟨W0.heap.size, 3, none⟩ = some (.int .i64 xc) := at_cells bx 3 rfl
  have x4 : W1.cell? ⟨W0.heap.size, 4, none⟩ = some (.int .i64 xk) := at_cells bx 4 rfl
  have x5 : W1.cell? ⟨W0.heap.size, 5, none⟩ = some (.slice xla xl.length xlc) := at_cells bx 5 rfl
  have f3 : W1.cell? ⟨w.heap.size + 1, 3, none⟩ = some (.slice f.ca f.code.length f.cc) := at_cells gf 3 rfl
  have d0 : W1.cell? ⟨w.heap.size, 0, none⟩ = some (.slice fa len cap) := at_cells gc 0 rfl
  have d2 : W1.cell? ⟨w.heap.size, 2, none⟩ = some (.int .i64 mg) := at_cells gc 2 rfl
  by_cases k0 : 1 ≤ xk
  · by_cases k1 : xk ≤ 12
    · have HV : Hid (numR F mg f p ⟨4, xa, xb, xc, xk, xla, xlc, xl⟩ = true) := by unfold Hid numR; first | (simp [k0, k1]; done) | (simp [k0, k1]; omega)
      go_wp2
      go_ret
      exact ⟨by rw [HV.out]; rfl, HG.out⟩
    · have HV : Hid (numR F mg f p ⟨4, xa, xb, xc, xk, xla, xlc, xl⟩ = false) := by unfold Hid numR; first | (simp [k0, k1]; done) | (simp [k0, k1]; omega)
      go_wp2
      go_ret
      exact ⟨by rw [HV.out]; rfl, HG.out⟩
  · have HV : Hid (numR F mg f p ⟨4, xa, xb, xc, xk, xla, xlc, xl⟩ = false) := by unfold Hid numR; first | (simp [k0]; done) | (simp [k0]; omega)
    go_wp2
    go_ret
    exact ⟨by rw [HV.out]; rfl, HG.out⟩

set_option maxRecDepth 100000 in
set_option maxHeartbeats 4000000 in
theorem rnum_5 (B : Nat) (w : World) (F : List Fu) (fa : Option Addr) (len cap : Nat) (mn mg : Int) (f : Fu) (x : In) (p : Nat) (hop : x.op = 5) (hx : f.code[p]? = some x) (hf : FuOk B w f) (hF : FAt B w fa F) (hln : F.length = len) (hlm : len ≤ 20000000000000) :
    Calls Tryd.prog 43 #[.agg #[.slice fa len cap, .int .i64 mn, .int .i64 mg], .agg f.arr, .int .i64 p] w fun e w' => e = .returned (.bool (numR F mg f p x)) ∧ Fr [] w w' := by
  have F0 : Fr [] w ((w.alloc (.cells #[.slice fa len cap, .int .i64 mn, .int .i64 mg] 24)).alloc (.cells f.arr 34)) := ((Fr.refl _ _).alloc _).alloc _
  have c1 := heap_alloc_new w (.cells #[.slice fa len cap, .int .i64 mn, .int .i64 mg] 24)
  have bc := (((Fr.refl [] (w.alloc (.cells #[.slice fa len cap, .int .i64 mn, .int .i64 mg] 24))).alloc (.cells f.arr 34)).block _ (Array.getElem?_eq_some_iff.1 c1).1 (by simp)).trans c1
  have bf := blk2 w (.cells #[.slice fa len cap, .int .i64 mn, .int .i64 mg] 24) (.cells f.arr 34)
  have HX : Hid (FuOk B ((w.alloc (.cells #[.slice fa len cap, .int .i64 mn, .int .i64 mg] 24)).alloc (.cells f.arr 34)) f) := hf.fr F0 (by simp)
  have HFA : Hid (FAt B ((w.alloc (.cells #[.slice fa len cap, .int .i64 mn, .int .i64 mg] 24)).alloc (.cells f.arr 34)) fa F) := hF.fr F0 (by simp)
  have HF : Hid (Fr [] w ((w.alloc (.cells #[.slice fa len cap, .int .i64 mn, .int .i64 mg] 24)).alloc (.cells f.arr 34))) := F0
  have HLN : Hid (F.length = len) := hln
  have hfl := hf.kl
  have hflI : (f.code.length : Int) ≤ 20000000000000 := by omega
  have hplt : p < f.code.length := (List.getElem?_eq_some_iff.1 hx).1
  have hpI : (p : Int) < f.code.length := by omega
  have hlI : (len : Int) ≤ 20000000000000 := by omega
  obtain ⟨b, o, hca, hb, xc⟩ := HX.out.k p x hx
  obtain ⟨u0, u1, u2, u3, u4, u5, okx⟩ := xc
  have HCA : Hid (f.ca = some ⟨b, o, none⟩) := hca
  clear hca
  have HOX : Hid _ := okx
  have hxl := okx.kl
  have HNR : Hid (numR F mg f p x = numR F mg f p x) := rfl
  unfold Fu.arr at *
  clear F0 c1 hf hF hln hx okx
  obtain ⟨xop, xa, xb, xc, xk, xla, xlc, xl⟩ := x
  simp only at *
  have hxlI : (xl.length : Int) ≤ 20000000000000 := by omega
  subst hop
  go_enter Tryd.func43, Tryd.ntmps43
  go_upto_region 1 with fail
  generalize (w.alloc (.cells #[.slice fa len cap, .int .i64 mn, .int .i64 mg] 24)).alloc (.cells #[.string f.name, .int .i64 f.ps, .int .i64 f.rs, .slice f.ca f.code.length f.cc] 34) = W0 at *
  have n1 := World.block_lt_of_cell? W0 _ u0
  have n2 := (Array.getElem?_eq_some_iff.1 bc).1
  have n3 := (Array.getElem?_eq_some_iff.1 bf).1
  simp only at n1
  have m1 : b ≠ W0.heap.size := by omega
  have m2 : w.heap.size ≠ W0.heap.size := by omega
  have m3 : w.heap.size + 1 ≠ W0.heap.size := by omega
  have f3 : W0.cell? ⟨w.heap.size + 1, 3, none⟩ = some (.slice f.ca f.code.length f.cc) := at_cells bf 3 rfl
  rw [HCA.out] at f3
  go_upto_region 2 with fail
  have G1 : Fr [] W0 (W0.alloc (.cells #[.int .i64 5, .int .i64 xa, .int .i64 xb, .int .i64 xc, .int .i64 xk, .slice xla xl.length xlc] 39)) := (Fr.refl _ _).alloc _
  have bx := heap_alloc_new W0 (.cells #[.int .i64 5, .int .i64 xa, .int .i64 xb, .int .i64 xc, .int .i64 xk, .slice xla xl.length xlc] 39)
  have gc := (G1.block _ (Array.getElem?_eq_some_iff.1 bc).1 (by simp)).trans bc
  have gf := (G1.block _ (Array.getElem?_eq_some_iff.1 bf).1 (by simp)).trans bf
  have HG : Hid (Fr [] w (W0.alloc (.cells #[.int .i64 5, .int .i64 xa, .int .i64 xb, .int .i64 xc, .int .i64 xk, .slice xla xl.length xlc] 39))) := HF.out.trans G1
  have HFB : Hid (FAt B (W0.alloc (.cells #[.int .i64 5, .int .i64 xa, .int .i64 xb, .int .i64 xc, .int .i64 xk, .slice xla xl.length xlc] 39)) fa F) := HFA.out.fr G1 (by simp)
  clear G1 f3 m1 m2 m3 n1 n2 n3 u0 u1 u2 u3 u4 u5 bc bf HFA HF HX
  generalize W0.alloc (.cells #[.int .i64 5, .int .i64 xa, .int .i64 xb, .int .i64 xc, .int .i64 xk, .slice xla xl.length xlc] 39) = W1 at *
  have x0 : W1.cell? ⟨W0.heap.size, 0, none⟩ = some (.int .i64 5) := at_cells bx 0 rfl
  have x1 : W1.cell? ⟨W0.heap.size, 1, none⟩ = some (.int .i64 xa) := at_cells bx 1 rfl
  have x2 : W1.cell? ⟨W0.heap.size, 2, none⟩ = some (.int .i64 xb) := at_cells bx 2 rfl
  have x3 : W1.cell? ⟨W0.heap.size, 3, none⟩ = some (.int .i64 xc) := at_cells bx 3 rfl
  have x4 : W1.cell? ⟨W0.heap.size, 4, none⟩ = some (.int .i64 xk) := at_cells bx 4 rfl
  have x5 : W1.cell? ⟨W0.heap.size, 5, none⟩ = some (.slice xla xl.length xlc) := at_cells bx 5 rfl
  have f3 : W1.cell? ⟨w.heap.size + 1, 3, none⟩ = some (.slice f.ca f.code.length f.cc) := at_cells gf 3 rfl
  have d0 : W1.cell? ⟨w.heap.size, 0, none⟩ = some (.slice fa len cap) := at_cells gc 0 rfl
  have d2 : W1.cell? ⟨w.heap.size, 2, none⟩ = some (.int .i64 mg) := at_cells gc 2 rfl
  by_cases k0 : 13 ≤ xk
  · by_cases k1 : xk ≤ 15
    · have HV : Hid (numR F mg f p ⟨5, xa, xb, xc, xk, xla, xlc, xl⟩ = true) := by unfold Hid numR; first | (simp [k0, k1]; done) | (simp [k0, k1]; omega)
      go_wp2
      go_ret
      exact ⟨by rw [HV.out]; rfl, HG.out⟩
    · have HV : Hid (numR F mg f p ⟨5, xa, xb, xc, xk, xla, xlc, xl⟩ = false) := by unfold Hid numR; first | (simp [k0, k1]; done) | (simp [k0, k1]; omega)
      go_wp2
      go_ret
      exact ⟨by rw [HV.out]; rfl, HG.out⟩
  · have HV : Hid (numR F mg f p ⟨5, xa, xb, xc, xk, xla, xlc, xl⟩ = false) := by unfold Hid numR; first | (simp [k0]; done) | (simp [k0]; omega)
    go_wp2
    go_ret
    exact ⟨by rw [HV.out]; rfl, HG.out⟩

set_option maxRecDepth 100000 in
set_option maxHeartbeats 4000000 in
theorem rnum_8 (B : Nat) (w : World) (F : List Fu) (fa : Option Addr) (len cap : Nat) (mn mg : Int) (f : Fu) (x : In) (p : Nat) (hop : x.op = 8) (hx : f.code[p]? = some x) (hf : FuOk B w f) (hF : FAt B w fa F) (hln : F.length = len) (hlm : len ≤ 20000000000000) :
    Calls Tryd.prog 43 #[.agg #[.slice fa len cap, .int .i64 mn, .int .i64 mg], .agg f.arr, .int .i64 p] w fun e w' => e = .returned (.bool (numR F mg f p x)) ∧ Fr [] w w' := by
  have F0 : Fr [] w ((w.alloc (.cells #[.slice fa len cap, .int .i64 mn, .int .i64 mg] 24)).alloc (.cells f.arr 34)) := ((Fr.refl _ _).alloc _).alloc _
  have c1 := heap_alloc_new w (.cells #[.slice fa len cap, .int .i64 mn, .int .i64 mg] 24)
  have bc := (((Fr.refl [] (w.alloc (.cells #[.slice fa len cap, .int .i64 mn, .int .i64 mg] 24))).alloc (.cells f.arr 34)).block _ (Array.getElem?_eq_some_iff.1 c1).1 (by simp)).trans c1
  have bf := blk2 w (.cells #[.slice fa len cap, .int .i64 mn, .int .i64 mg] 24) (.cells f.arr 34)
  have HX : Hid (FuOk B ((w.alloc (.cells #[.slice fa len cap, .int .i64 mn, .int .i64 mg] 24)).alloc (.cells f.arr 34)) f) := hf.fr F0 (by simp)
  have HFA : Hid (FAt B ((w.alloc (.cells #[.slice fa len cap, .int .i64 mn, .int .i64 mg] 24)).alloc (.cells f.arr 34)) fa F) := hF.fr F0 (by simp)
  have HF : Hid (Fr [] w ((w.alloc (.cells #[.slice fa len cap, .int .i64 mn, .int .i64 mg] 24)).alloc (.cells f.arr 34))) := F0
  have HLN : Hid (F.length = len) := hln
  have hfl := hf.kl
  have hflI : (f.code.length : Int) ≤ 20000000000000 := by omega
  have hplt : p < f.code.length := (List.getElem?_eq_some_iff.1 hx).1
  have hpI : (p : Int) < f.code.length := by omega
  have hlI : (len : Int) ≤ 20000000000000 := by omega
  obtain ⟨b, o, hca, hb, xc⟩ := HX.out.k p x hx
  obtain ⟨u0, u1, u2, u3, u4, u5, okx⟩ := xc
  have HCA : Hid (f.ca = some ⟨b, o, none⟩) := hca
  clear hca
  have HOX : Hid _ := okx
  have hxl := okx.kl
  have HNR : Hid (numR F mg f p x = numR F mg f p x) := rfl
  unfold Fu.arr at *
  clear F0 c1 hf hF hln hx okx
  obtain ⟨xop, xa, xb, xc, xk, xla, xlc, xl⟩ := x
  simp only at *
  have hxlI : (xl.length : Int) ≤ 20000000000000 := by omega
  subst hop
  go_enter Tryd.func43, Tryd.ntmps43
  go_upto_region 1 with fail
  generalize (w.alloc (.cells #[.slice fa len cap, .int .i64 mn, .int .i64 mg] 24)).alloc (.cells #[.string f.name, .int .i64 f.ps, .int .i64 f.rs, .slice f.ca f.code.length f.cc] 34) = W0 at *
  have n1 := World.block_lt_of_cell? W0 _ u0
  have n2 := (Array.getElem?_eq_some_iff.1 bc).1
  have n3 := (Array.getElem?_eq_some_iff.1 bf).1
  simp only at n1
  have m1 : b ≠ W0.heap.size := by omega
  have m2 : w.heap.size ≠ W0.heap.size := by omega
  have m3 : w.heap.size + 1 ≠ W0.heap.size := by omega
  have f3 : W0.cell? ⟨w.heap.size + 1, 3, none⟩ = some (.slice f.ca f.code.length f.cc) := at_cells bf 3 rfl
  rw [HCA.out] at f3
  go_upto_region 2 with fail
  have G1 : Fr [] W0 (W0.alloc (.cells #[.int .i64 8, .int .i64 xa, .int .i64 xb, .int .i64 xc, .int .i64 xk, .slice xla xl.length xlc] 39)) := (Fr.refl _ _).alloc _
  have bx := heap_alloc_new W0 (.cells #[.int .i64 8, .int .i64 xa, .int .i64 xb, .int .i64 xc, .int .i64 xk, .slice xla xl.length xlc] 39)
  have gc := (G1.block _ (Array.getElem?_eq_some_iff.1 bc).1 (by simp)).trans bc
  have gf := (G1.block _ (Array.getElem?_eq_some_iff.1 bf).1 (by simp)).trans bf
  have HG : Hid (Fr [] w (W0.alloc (.cells #[.int .i64 8, .int .i64 xa, .int .i64 xb, .int .i64 xc, .int .i64 xk, .slice xla xl.length xlc] 39))) := HF.out.trans G1
  have HFB : Hid (FAt B (W0.alloc (.cells #[.int .i64 8, .int .i64 xa, .int .i64 xb, .int .i64 xc, .int .i64 xk, .slice xla xl.length xlc] 39)) fa F) := HFA.out.fr G1 (by simp)
  clear G1 f3 m1 m2 m3 n1 n2 n3 u0 u1 u2 u3 u4 u5 bc bf HFA HF HX
  generalize W0.alloc (.cells #[.int .i64 8, .int .i64 xa, .int .i64 xb, .int .i64 xc, .int .i64 xk, .slice xla xl.length xlc] 39) = W1 at *
  have x0 : W1.cell? ⟨W0.heap.size, 0, none⟩ = some (.int .i64 8) := at_cells bx 0 rfl
  have x1 : W1.cell? ⟨W0.heap.size, 1, none⟩ = some (.int .i64 xa) := at_cells bx 1 rfl
  have x2 : W1.cell? ⟨W0.heap.size, 2, none⟩ = some (.int .i64 xb) := at_cells bx 2 rfl
  have x3 : W1.cell? ⟨W0.heap.size, 3, none⟩ = some (.int .i64 xc) := at_cells bx 3 rfl
  have x4 : W1.cell? ⟨W0.heap.size, 4, none⟩ = some (.int .i64 xk) := at_cells bx 4 rfl
  have x5 : W1.cell? ⟨W0.heap.size, 5, none⟩ = some (.slice xla xl.length xlc) := at_cells bx 5 rfl
  have f3 : W1.cell? ⟨w.heap.size + 1, 3, none⟩ = some (.slice f.ca f.code.length f.cc) := at_cells gf 3 rfl
  have d0 : W1.cell? ⟨w.heap.size, 0, none⟩ = some (.slice fa len cap) := at_cells gc 0 rfl
  have d2 : W1.cell? ⟨w.heap.size, 2, none⟩ = some (.int .i64 mg) := at_cells gc 2 rfl
  by_cases k0 : 0 ≤ xk
  · by_cases k1 : xk ≤ 1000
    · by_cases k2 : 0 ≤ xc
      · by_cases k3 : xc ≤ 1000
        · have HV : Hid (numR F mg f p ⟨8, xa, xb, xc, xk, xla, xlc, xl⟩ = true) := by unfold Hid numR; first | (simp [k0, k1, k2, k3]; done) | (simp [k0, k1, k2, k3]; omega)
          go_wp2
          go_ret
          exact ⟨by rw [HV.out]; rfl, HG.out⟩
        · have HV : Hid (numR F mg f p ⟨8, xa, xb, xc, xk, xla, xlc, xl⟩ = false) := by unfold Hid numR; first | (simp [k0, k1, k2, k3]; done) | (simp [k0, k1, k2, k3]; omega)
          go_wp2
          go_ret
          exact ⟨by rw [HV.out]; rfl, HG.out⟩
      · have HV : Hid (numR F mg f p ⟨8, xa, xb, xc, xk, xla, xlc, xl⟩ = false) := by unfold Hid numR; first | (simp [k0, k1, k2]; done) | (simp [k0, k1, k2]; omega)
        go_wp2
        go_ret
        exact ⟨by rw [HV.out]; rfl, HG.out⟩
    · have HV : Hid (numR F mg f p ⟨8, xa, xb, xc, xk, xla, xlc, xl⟩ = false) := by unfold Hid numR; first | (simp [k0, k1]; done) | (simp [k0, k1]; omega)
      go_wp2
      go_ret
      exact ⟨by rw [HV.out]; rfl, HG.out⟩
  · have HV : Hid (numR F mg f p ⟨8, xa, xb, xc, xk, xla, xlc, xl⟩ = false) := by unfold Hid numR; first | (simp [k0]; done) | (simp [k0]; omega)
    go_wp2
    go_ret
    exact ⟨by rw [HV.out]; rfl, HG.out⟩

set_option maxRecDepth 100000 in
set_option maxHeartbeats 4000000 in
theorem rnum_9 (B : Nat) (w : World) (F : List Fu) (fa : Option Addr) (len cap : Nat) (mn mg : Int) (f : Fu) (x : In) (p : Nat) (hop : x.op = 9) (hx : f.code[p]? = some x) (hf : FuOk B w f) (hF : FAt B w fa F) (hln : F.length = len) (hlm : len ≤ 20000000000000) :
    Calls Tryd.prog 43 #[.agg #[.slice fa len cap, .int .i64 mn, .int .i64 mg], .agg f.arr, .int .i64 p] w fun e w' => e = .returned (.bool (numR F mg f p x)) ∧ Fr [] w w' := by
  have F0 : Fr [] w ((w.alloc (.cells #[.slice fa len cap, .int .i64 mn, .int .i64 mg] 24)).alloc (.cells f.arr 34)) := ((Fr.refl _ _).alloc _).alloc _
  have c1 := heap_alloc_new w (.cells #[.slice fa len cap, .int .i64 mn, .int .i64 mg] 24)
  have bc := (((Fr.refl [] (w.alloc (.cells #[.slice fa len cap, .int .i64 mn, .int .i64 mg] 24))).alloc (.cells f.arr 34)).block _ (Array.getElem?_eq_some_iff.1 c1).1 (by simp)).trans c1
  have bf := blk2 w (.cells #[.slice fa len cap, .int .i64 mn, .int .i64 mg] 24) (.cells f.arr 34)
  have HX : Hid (FuOk B ((w.alloc (.cells #[.slice fa len cap, .int .i64 mn, .int .i64 mg] 24)).alloc (.cells f.arr 34)) f) := hf.fr F0 (by simp)
  have HFA : Hid (FAt B ((w.alloc (.cells #[.slice fa len cap, .int .i64 mn, .int .i64 mg] 24)).alloc (.cells f.arr 34)) fa F) := hF.fr F0 (by simp)
  have HF : Hid (Fr [] w ((w.alloc (.cells #[.slice fa len cap, .int .i64 mn, .int .i64 mg] 24)).alloc (.cells f.arr 34))) := F0
  have HLN : Hid (F.length = len) := hln
  have hfl := hf.kl
  have hflI : (f.code.length : Int) ≤ 20000000000000 := by omega
  have hplt : p < f.code.length := (List.getElem?_eq_some_iff.1 hx).1
  have hpI : (p : Int) < f.code.length := by omega
  have hlI : (len : Int) ≤ 20000000000000 := by omega
  obtain ⟨b, o, hca, hb, xc⟩ := HX.out.k p x hx
  obtain ⟨u0, u1, u2, u3, u4, u5, okx⟩ := xc
  have HCA : Hid (f.ca = some ⟨b, o, none⟩) := hca
  clear hca
  have HOX : Hid _ := okx
  have hxl := okx.kl
  have HNR : Hid (numR F mg f p x = numR F mg f p x) := rfl
  unfold Fu.arr at *
  clear F0 c1 hf hF hln hx okx
  obtain ⟨xop, xa, xb, xc, xk, xla, xlc, xl⟩ := x
  simp only at *
  have hxlI : (xl.length : Int) ≤ 20000000000000 := by omega
  subst hop
  go_enter Tryd.func43, Tryd.ntmps43
  go_upto_region 1 with fail
  generalize (w.alloc (.cells #[.slice fa len cap, .int .i64 mn, .int .i64 mg] 24)).alloc (.cells #[.string f.name, .int .i64 f.ps, .int .i64 f.rs, .slice f.ca f.code.length f.cc] 34) = W0 at *
  have n1 := World.block_lt_of_cell? W0 _ u0
  have n2 := (Array.getElem?_eq_some_iff.1 bc).1
  have n3 := (Array.getElem?_eq_some_iff.1 bf).1
  simp only at n1
  have m1 : b ≠ W0.heap.size := by omega
  have m2 : w.heap.size ≠ W0.heap.size := by omega
  have m3 : w.heap.size + 1 ≠ W0.heap.size := by omega
  have f3 : W0.cell? ⟨w.heap.size + 1, 3, none⟩ = some (.slice f.ca f.code.length f.cc) := at_cells bf 3 rfl
  rw [HCA.out] at f3
  go_upto_region 2 with fail
  have G1 : Fr [] W0 (W0.alloc (.cells #[.int .i64 9, .int .i64 xa, .int .i64 xb, .int .i64 xc, .int .i64 xk, .slice xla xl.length xlc] 39)) := (Fr.refl _ _).alloc _
  have bx := heap_alloc_new W0 (.cells #[.int .i64 9, .int .i64 xa, .int .i64 xb, .int .i64 xc, .int .i64 xk, .slice xla xl.length xlc] 39)
  have gc := (G1.block _ (Array.getElem?_eq_some_iff.1 bc).1 (by simp)).trans bc
  have gf := (G1.block _ (Array.getElem?_eq_some_iff.1 bf).1 (by simp)).trans bf
  have HG : Hid (Fr [] w (W0.alloc (.cells #[.int .i64 9, .int .i64 xa, .int .i64 xb, .int .i64 xc, .int .i64 xk, .slice xla xl.length xlc] 39))) := HF.out.trans G1
  have HFB : Hid (FAt B (W0.alloc (.cells #[.int .i64 9, .int .i64 xa, .int .i64 xb, .int .i64 xc, .int .i64 xk, .slice xla xl.length xlc] 39)) fa F) := HFA.out.fr G1 (by simp)
  clear G1 f3 m1 m2 m3 n1 n2 n3 u0 u1 u2 u3 u4 u5 bc bf HFA HF HX
  generalize W0.alloc (.cells #[.int .i64 9, .int .i64 xa, .int .i64 xb, .int .i64 xc, .int .i64 xk, .slice xla xl.length xlc] 39) = W1 at *
  have x0 : W1.cell? ⟨W0.heap.size, 0, none⟩ = some (.int .i64 9) := at_cells bx 0 rfl
  have x1 : W1.cell? ⟨W0.heap.size, 1, none⟩ = some (.int .i64 xa) := at_cells bx 1 rfl
  have x2 : W1.cell? ⟨W0.heap.size, 2, none⟩ = some (.int .i64 xb) := at_cells bx 2 rfl
  have x3 : W1.cell? ⟨W0.heap.size, 3, none⟩ = some (.int .i64 xc) := at_cells bx 3 rfl
  have x4 : W1.cell? ⟨W0.heap.size, 4, none⟩ = some (.int .i64 xk) := at_cells bx 4 rfl
  have x5 : W1.cell? ⟨W0.heap.size, 5, none⟩ = some (.slice xla xl.length xlc) := at_cells bx 5 rfl
  have f3 : W1.cell? ⟨w.heap.size + 1, 3, none⟩ = some (.slice f.ca f.code.length f.cc) := at_cells gf 3 rfl
  have d0 : W1.cell? ⟨w.heap.size, 0, none⟩ = some (.slice fa len cap) := at_cells gc 0 rfl
  have d2 : W1.cell? ⟨w.heap.size, 2, none⟩ = some (.int .i64 mg) := at_cells gc 2 rfl
  by_cases k0 : 0 ≤ xk
  · by_cases k1 : xk ≤ 1000
    · by_cases k2 : 0 ≤ xc
      · by_cases k3 : xc ≤ 1000
        · have HV : Hid (numR F mg f p ⟨9, xa, xb, xc, xk, xla, xlc, xl⟩ = true) := by unfold Hid numR; first | (simp [k0, k1, k2, k3]; done) | (simp [k0, k1, k2, k3]; omega)
          go_wp2
          go_ret
          exact ⟨by rw [HV.out]; rfl, HG.out⟩
        · have HV : Hid (numR F mg f p ⟨9, xa, xb, xc, xk, xla, xlc, xl⟩ = false) := by unfold Hid numR; first | (simp [k0, k1, k2, k3]; done) | (simp [k0, k1, k2, k3]; omega)
          go_wp2
          go_ret
          exact ⟨by rw [HV.out]; rfl, HG.out⟩
      · have HV : Hid (numR F mg f p ⟨9, xa, xb, xc, xk, xla, xlc, xl⟩ = false) := by unfold Hid numR; first | (simp [k0, k1, k2]; done) | (simp [k0, k1, k2]; omega)
        go_wp2
        go_ret
        exact ⟨by rw [HV.out]; rfl, HG.out⟩
    · have HV : Hid (numR F mg f p ⟨9, xa, xb, xc, xk, xla, xlc, xl⟩ = false) := by unfold Hid numR; first | (simp [k0, k1]; done) | (simp [k0, k1]; omega)
      go_wp2
      go_ret
      exact ⟨by rw [HV.out]; rfl, HG.out⟩
  · have HV : Hid (numR F mg f p ⟨9, xa, xb, xc, xk, xla, xlc, xl⟩ = false) := by unfold Hid numR; first | (simp [k0]; done) | (simp [k0]; omega)
    go_wp2
    go_ret
    exact ⟨by rw [HV.out]; rfl, HG.out⟩

set_option maxRecDepth 100000 in
set_option maxHeartbeats 4000000 in
theorem rnum_13 (B : Nat) (w : World) (F : List Fu) (fa : Option Addr) (len cap : Nat) (mn mg : Int) (f : Fu) (x : In) (p : Nat) (hop : x.op = 13) (hx : f.code[p]? = some x) (hf : FuOk B w f) (hF : FAt B w fa F) (hln : F.length = len) (hlm : len ≤ 20000000000000) :
    Calls Tryd.prog 43 #[.agg #[.slice fa len cap, .int .i64 mn, .int .i64 mg], .agg f.arr, .int .i64 p] w fun e w' => e = .returned (.bool (numR F mg f p x)) ∧ Fr [] w w' := by
  have F0 : Fr [] w ((w.alloc (.cells #[.slice fa len cap, .int .i64 mn, .int .i64 mg] 24)).alloc (.cells f.arr 34)) := ((Fr.refl _ _).alloc _).alloc _
  have c1 := heap_alloc_new w (.cells #[.slice fa len cap, .int .i64 mn, .int .i64 mg] 24)
  have bc := (((Fr.refl [] (w.alloc (.cells #[.slice fa len cap, .int .i64 mn, .int .i64 mg] 24))).alloc (.cells f.arr 34)).block _ (Array.getElem?_eq_some_iff.1 c1).1 (by simp)).trans c1
  have bf := blk2 w (.cells #[.slice fa len cap, .int .i64 mn, .int .i64 mg] 24) (.cells f.arr 34)
  have HX : Hid (FuOk B ((w.alloc (.cells #[.slice fa len cap, .int .i64 mn, .int .i64 mg] 24)).alloc (.cells f.arr 34)) f) := hf.fr F0 (by simp)
  have HFA : Hid (FAt B ((w.alloc (.cells #[.slice fa len cap, .int .i64 mn, .int .i64 mg] 24)).alloc (.cells f.arr 34)) fa F) := hF.fr F0 (by simp)
  have HF : Hid (Fr [] w ((w.alloc (.cells #[.slice fa len cap, .int .i64 mn, .int .i64 mg] 24)).alloc (.cells f.arr 34))) := F0
  have HLN : Hid (F.length = len) := hln
  have hfl := hf.kl
  have hflI : (f.code.length : Int) ≤ 20000000000000 := by omega
  have hplt : p < f.code.length := (List.getElem?_eq_some_iff.1 hx).1
  have hpI : (p : Int) < f.code.length := by omega
  have hlI : (len : Int) ≤ 20000000000000 := by omega
  obtain ⟨b, o, hca, hb, xc⟩ := HX.out.k p x hx
  obtain ⟨u0, u1, u2, u3, u4, u5, okx⟩ := xc
  have HCA : Hid (f.ca = some ⟨b, o, none⟩) := hca
  clear hca
  have HOX : Hid _ := okx
  have hxl := okx.kl
  have HNR : Hid (numR F mg f p x = numR F mg f p x) := rfl
  unfold Fu.arr at *
  clear F0 c1 hf hF hln hx okx
  obtain ⟨xop, xa, xb, xc, xk, xla, xlc, xl⟩ := x
  simp only at *
  have hxlI : (xl.length : Int) ≤ 20000000000000 := by omega
  subst hop
  go_enter Tryd.func43, Tryd.ntmps43
  go_upto_region 1 with fail
  generalize (w.alloc (.cells #[.slice fa len cap, .int .i64 mn, .int .i64 mg] 24)).alloc (.cells #[.string f.name, .int .i64 f.ps, .int .i64 f.rs, .slice f.ca f.code.length f.cc] 34) = W0 at *
  have n1 := World.block_lt_of_cell? W0 _ u0
  have n2 := (Array.getElem?_eq_some_iff.1 bc).1
  have n3 := (Array.getElem?_eq_some_iff.1 bf).1
  simp only at n1
  have m1 : b ≠ W0.heap.size := by omega
  have m2 : w.heap.size ≠ W0.heap.size := by omega
  have m3 : w.heap.size + 1 ≠ W0.heap.size := by omega
  have f3 : W0.cell? ⟨w.heap.size + 1, 3, none⟩ = some (.slice f.ca f.code.length f.cc) := at_cells bf 3 rfl
  rw [HCA.out] at f3
  go_upto_region 2 with fail
  have G1 : Fr [] W0 (W0.alloc (.cells #[.int .i64 13, .int .i64 xa, .int .i64 xb, .int .i64 xc, .int .i64 xk, .slice xla xl.length xlc] 39)) := (Fr.refl _ _).alloc _
  have bx := heap_alloc_new W0 (.cells #[.int .i64 13, .int .i64 xa, .int .i64 xb, .int .i64 xc, .int .i64 xk, .slice xla xl.length xlc] 39)
  have gc := (G1.block _ (Array.getElem?_eq_some_iff.1 bc).1 (by simp)).trans bc
  have gf := (G1.block _ (Array.getElem?_eq_some_iff.1 bf).1 (by simp)).trans bf
  have HG : Hid (Fr [] w (W0.alloc (.cells #[.int .i64 13, .int .i64 xa, .int .i64 xb, .int .i64 xc, .int .i64 xk, .slice xla xl.length xlc] 39))) := HF.out.trans G1
  have HFB : Hid (FAt B (W0.alloc (.cells #[.int .i64 13, .int .i64 xa, .int .i64 xb, .int .i64 xc, .int .i64 xk, .slice xla xl.length xlc] 39)) fa F) := HFA.out.fr G1 (by simp)
  clear G1 f3 m1 m2 m3 n1 n2 n3 u0 u1 u2 u3 u4 u5 bc bf HFA HF HX
  generalize W0.alloc (.cells #[.int .i64 13, .int .i64 xa, .int .i64 xb, .int .i64 xc, .int .i64 xk, .slice xla xl.length xlc] 39) = W1 at *
  have x0 : W1.cell? ⟨W0.heap.size, 0, none⟩ = some (.int .i64 13) := at_cells bx 0 rfl
  have x1 : W1.cell? ⟨W0.heap.size, 1, none⟩ = some (.int .i64 xa) := at_cells bx 1 rfl
  have x2 : W1.cell? ⟨W0.heap.size, 2, none⟩ = some (.int .i64 xb) := at_cells bx 2 rfl
  have x3 : W1.cell? ⟨W0.heap.size, 3, none⟩ = some (.int .i64 xc) := at_cells bx 3 rfl
  have x4 : W1.cell? ⟨W0.heap.size, 4, none⟩ = some (.int .i64 xk) := at_cells bx 4 rfl
  have x5 : W1.cell? ⟨W0.heap.size, 5, none⟩ = some (.slice xla xl.length xlc) := at_cells bx 5 rfl
  have f3 : W1.cell? ⟨w.heap.size + 1, 3, none⟩ = some (.slice f.ca f.code.length f.cc) := at_cells gf 3 rfl
  have d0 : W1.cell? ⟨w.heap.size, 0, none⟩ = some (.slice fa len cap) := at_cells gc 0 rfl
  have d2 : W1.cell? ⟨w.heap.size, 2, none⟩ = some (.int .i64 mg) := at_cells gc 2 rfl
  by_cases k0 : 0 ≤ xk
  · by_cases k1 : xk ≤ 1000
    · by_cases k2 : 0 ≤ xc
      · by_cases k3 : xc ≤ 1000
        · have HV : Hid (numR F mg f p ⟨13, xa, xb, xc, xk, xla, xlc, xl⟩ = true) := by unfold Hid numR; first | (simp [k0, k1, k2, k3]; done) | (simp [k0, k1, k2, k3]; omega)
          go_wp2
          go_ret
          exact ⟨by rw [HV.out]; rfl, HG.out⟩
        · have HV : Hid (numR F mg f p ⟨13, xa, xb, xc, xk, xla, xlc, xl⟩ = false) := by unfold Hid numR; first | (simp [k0, k1, k2, k3]; done) | (simp [k0, k1, k2, k3]; omega)
          go_wp2
          go_ret
          exact ⟨by rw [HV.out]; rfl, HG.out⟩
      · have HV : Hid (numR F mg f p ⟨13, xa, xb, xc, xk, xla, xlc, xl⟩ = false) := by unfold Hid numR; first | (simp [k0, k1, k2]; done) | (simp [k0, k1, k2]; omega)
        go_wp2
        go_ret
        exact ⟨by rw [HV.out]; rfl, HG.out⟩
    · have HV : Hid (numR F mg f p ⟨13, xa, xb, xc, xk, xla, xlc, xl⟩ = false) := by unfold Hid numR; first | (simp [k0, k1]; done) | (simp [k0, k1]; omega)
      go_wp2
      go_ret
      exact ⟨by rw [HV.out]; rfl, HG.out⟩
  · have HV : Hid (numR F mg f p ⟨13, xa, xb, xc, xk, xla, xlc, xl⟩ = false) := by unfold Hid numR; first | (simp [k0]; done) | (simp [k0]; omega)
    go_wp2
    go_ret
    exact ⟨by rw [HV.out]; rfl, HG.out⟩

set_option maxRecDepth 100000 in
set_option maxHeartbeats 4000000 in
theorem rnum_21 (B : Nat) (w : World) (F : List Fu) (fa : Option Addr) (len cap : Nat) (mn mg : Int) (f : Fu) (x : In) (p : Nat) (hop : x.op = 21) (hx : f.code[p]? = some x) (hf : FuOk B w f) (hF : FAt B w fa F) (hln : F.length = len) (hlm : len ≤ 20000000000000) :
    Calls Tryd.prog 43 #[.agg #[.slice fa len cap, .int .i64 mn, .int .i64 mg], .agg f.arr, .int .i64 p] w fun e w' => e = .returned (.bool (numR F mg f p x)) ∧ Fr [] w w' := by
  have F0 : Fr [] w ((w.alloc (.cells #[.slice fa len cap, .int .i64 mn, .int .i64 mg] 24)).alloc (.cells f.arr 34)) := ((Fr.refl _ _).alloc _).alloc _
  have c1 := heap_alloc_new w (.cells #[.slice fa len cap, .int .i64 mn, .int .i64 mg] 24)
  have bc := (((Fr.refl [] (w.alloc (.cells #[.slice fa len cap, .int .i64 mn, .int .i64 mg] 24))).alloc (.cells f.arr 34)).block _ (Array.getElem?_eq_some_iff.1 c1).1 (by simp)).trans c1
  have bf := blk2 w (.cells #[.slice fa len cap, .int .i64 mn, .int .i64 mg] 24) (.cells f.arr 34)
  have HX : Hid (FuOk B ((w.alloc (.cells #[.slice fa len cap, .int .i64 mn, .int .i64 mg] 24)).alloc (.cells f.arr 34)) f) := hf.fr F0 (by simp)
  have HFA : Hid (FAt B ((w.alloc (.cells #[.slice fa len cap, .int .i64 mn, .int .i64 mg] 24)).alloc (.cells f.arr 34)) fa F) := hF.fr F0 (by simp)
  have HF : Hid (Fr [] w ((w.alloc (.cells #[.slice fa len cap, .int .i64 mn, .int .i64 mg] 24)).alloc (.cells f.arr 34))) := F0
  have HLN : Hid (F.length = len) := hln
  have hfl := hf.kl
  have hflI : (f.code.length : Int) ≤ 20000000000000 := by omega
  have hplt : p < f.code.length := (List.getElem?_eq_some_iff.1 hx).1
  have hpI : (p : Int) < f.code.length := by omega
  have hlI : (len : Int) ≤ 20000000000000 := by omega
  obtain ⟨b, o, hca, hb, xc⟩ := HX.out.k p x hx
  obtain ⟨u0, u1, u2, u3, u4, u5, okx⟩ := xc
  have HCA : Hid (f.ca = some ⟨b, o, none⟩) := hca
  clear hca
  have HOX : Hid _ := okx
  have hxl := okx.kl
  have HNR : Hid (numR F mg f p x = numR F mg f p x) := rfl
  unfold Fu.arr at *
  clear F0 c1 hf hF hln hx okx
  obtain ⟨xop, xa, xb, xc, xk, xla, xlc, xl⟩ := x
  simp only at *
  have hxlI : (xl.length : Int) ≤ 20000000000000 := by omega
  subst hop
  go_enter Tryd.func43, Tryd.ntmps43
  go_upto_region 1 with fail
  generalize (w.alloc (.cells #[.slice fa len cap, .int .i64 mn, .int .i64 mg] 24)).alloc (.cells #[.string f.name, .int .i64 f.ps, .int .i64 f.rs, .slice f.ca f.code.length f.cc] 34) = W0 at *
  have n1 := World.block_lt_of_cell? W0 _ u0
  have n2 := (Array.getElem?_eq_some_iff.1 bc).1
  have n3 := (Array.getElem?_eq_some_iff.1 bf).1
  simp only at n1
  have m1 : b ≠ W0.heap.size := by omega
  have m2 : w.heap.size ≠ W0.heap.size := by omega
  have m3 : w.heap.size + 1 ≠ W0.heap.size := by omega
  have f3 : W0.cell? ⟨w.heap.size + 1, 3, none⟩ = some (.slice f.ca f.code.length f.cc) := at_cells bf 3 rfl
  rw [HCA.out] at f3
  go_upto_region 2 with fail
  have G1 : Fr [] W0 (W0.alloc (.cells #[.int .i64 21, .int .i64 xa, .int .i64 xb, .int .i64 xc, .int .i64 xk, .slice xla xl.length xlc] 39)) := (Fr.refl _ _).alloc _
  have bx := heap_alloc_new W0 (.cells #[.int .i64 21, .int .i64 xa, .int .i64 xb, .int .i64 xc, .int .i64 xk, .slice xla xl.length xlc] 39)
  have gc := (G1.block _ (Array.getElem?_eq_some_iff.1 bc).1 (by simp)).trans bc
  have gf := (G1.block _ (Array.getElem?_eq_some_iff.1 bf).1 (by simp)).trans bf
  have HG : Hid (Fr [] w (W0.alloc (.cells #[.int .i64 21, .int .i64 xa, .int .i64 xb, .int .i64 xc, .int .i64 xk, .slice xla xl.length xlc] 39))) := HF.out.trans G1
  have HFB : Hid (FAt B (W0.alloc (.cells #[.int .i64 21, .int .i64 xa, .int .i64 xb, .int .i64 xc, .int .i64 xk, .slice xla xl.length xlc] 39)) fa F) := HFA.out.fr G1 (by simp)
  clear G1 f3 m1 m2 m3 n1 n2 n3 u0 u1 u2 u3 u4 u5 bc bf HFA HF HX
  generalize W0.alloc (.cells #[.int .i64 21, .int .i64 xa, .int .i64 xb, .int .i64 xc, .int .i64 xk, .slice xla xl.length xlc] 39) = W1 at *
  have x0 : W1.cell? ⟨W0.heap.size, 0, none⟩ = some (.int .i64 21) := at_cells bx 0 rfl
  have x1 : W1.cell? ⟨W0.heap.size, 1, none⟩ = some (.int .i64 xa) := at_cells bx 1 rfl
  have x2 : W1.cell? ⟨W0.heap.size, 2, none⟩ = some (.int .i64 xb) := at_cells bx 2 rfl
  have x3 : W1.cell? ⟨W0.heap.size, 3, none⟩ = some (.int .i64 xc) := at_cells bx 3 rfl
  have x4 : W1.cell? ⟨W0.heap.size, 4, none⟩ = some (.int .i64 xk) := at_cells bx 4 rfl
  have x5 : W1.cell? ⟨W0.heap.size, 5, none⟩ = some (.slice xla xl.length xlc) := at_cells bx 5 rfl
  have f3 : W1.cell? ⟨w.heap.size + 1, 3, none⟩ = some (.slice f.ca f.code.length f.cc) := at_cells gf 3 rfl
  have d0 : W1.cell? ⟨w.heap.size, 0, none⟩ = some (.slice fa len cap) := at_cells gc 0 rfl
  have d2 : W1.cell? ⟨w.heap.size, 2, none⟩ = some (.int .i64 mg) := at_cells gc 2 rfl
  by_cases k0 : 0 ≤ xk
  · by_cases k1 : xk < (f.code.length : Int)
    · by_cases k2 : ¬ xk = (p : Int)
      · have e3 : (xk != (p : Int)) = true := by simpa using k2
        have HV : Hid (numR F mg f p ⟨21, xa, xb, xc, xk, xla, xlc, xl⟩ = true) := by unfold Hid numR; first | (simp [k0, k1, k2]; done) | (simp [k0, k1, k2]; omega)
        go_wp2
        go_ret
        exact ⟨by rw [HV.out]; rfl, HG.out⟩
      · have e3 : (xk != (p : Int)) = false := by simpa using k2
        have HV : Hid (numR F mg f p ⟨21, xa, xb, xc, xk, xla, xlc, xl⟩ = false) := by unfold Hid numR; first | (simp [k0, k1, k2]; done) | (simp [k0, k1, k2]; omega)
        go_wp2
        go_ret
        exact ⟨by rw [HV.out]; rfl, HG.out⟩
    · have HV : Hid (numR F mg f p ⟨21, xa, xb, xc, xk, xla, xlc, xl⟩ = false) := by unfold Hid numR; first | (simp [k0, k1]; done) | (simp [k0, k1]; omega)
      go_wp2
      go_ret
      exact ⟨by rw [HV.out]; rfl, HG.out⟩
  · have HV : Hid (numR F mg f p ⟨21, xa, xb, xc, xk, xla, xlc, xl⟩ = false) := by unfold Hid numR; first | (simp [k0]; done) | (simp [k0]; omega)
    go_wp2
    go_ret
    exact ⟨by rw [HV.out]; rfl, HG.out⟩

set_option maxRecDepth 100000 in
set_option maxHeartbeats 4000000 in
theorem rnum_22 (B : Nat) (w : World) (F : List Fu) (fa : Option Addr) (len cap : Nat) (mn mg : Int) (f : Fu) (x : In) (p : Nat) (hop : x.op = 22) (hx : f.code[p]? = some x) (hf : FuOk B w f) (hF : FAt B w fa F) (hln : F.length = len) (hlm : len ≤ 20000000000000) :
    Calls Tryd.prog 43 #[.agg #[.slice fa len cap, .int .i64 mn, .int .i64 mg], .agg f.arr, .int .i64 p] w fun e w' => e = .returned (.bool (numR F mg f p x)) ∧ Fr [] w w' := by
  have F0 : Fr [] w ((w.alloc (.cells #[.slice fa len cap, .int .i64 mn, .int .i64 mg] 24)).alloc (.cells f.arr 34)) := ((Fr.refl _ _).alloc _).alloc _
  have c1 := heap_alloc_new w (.cells #[.slice fa len cap, .int .i64 mn, .int .i64 mg] 24)
  have bc := (((Fr.refl [] (w.alloc (.cells #[.slice fa len cap, .int .i64 mn, .int .i64 mg] 24))).alloc (.cells f.arr 34)).block _ (Array.getElem?_eq_some_iff.1 c1).1 (by simp)).trans c1
  have bf := blk2 w (.cells #[.slice fa len cap, .int .i64 mn, .int .i64 mg] 24) (.cells f.arr 34)
  have HX : Hid (FuOk B ((w.alloc (.cells #[.slice fa len cap, .int .i64 mn, .int .i64 mg] 24)).alloc (.cells f.arr 34)) f) := hf.fr F0 (by simp)
  have HFA : Hid (FAt B ((w.alloc (.cells #[.slice fa len cap, .int .i64 mn, .int .i64 mg] 24)).alloc (.cells f.arr 34)) fa F) := hF.fr F0 (by simp)
  have HF : Hid (Fr [] w ((w.alloc (.cells #[.slice fa len cap, .int .i64 mn, .int .i64 mg] 24)).alloc (.cells f.arr 34))) := F0
  have HLN : Hid (F.length = len) := hln
  have hfl := hf.kl
  have hflI : (f.code.length : Int) ≤ 20000000000000 := by omega
  have hplt : p < f.code.length := (List.getElem?_eq_some_iff.1 hx).1
  have hpI : (p : Int) < f.code.length := by omega
  have hlI : (len : Int) ≤ 20000000000000 := by omega
  obtain ⟨b, o, hca, hb, xc⟩ := HX.out.k p x hx
  obtain ⟨u0, u1, u2, u3, u4, u5, okx⟩ := xc
  have HCA : Hid (f.ca = some ⟨b, o, none⟩) := hca
  clear hca
  have HOX : Hid _ := okx
  have hxl := okx.kl
  have HNR : Hid (numR F mg f p x = numR F mg f p x) := rfl
  unfold Fu.arr at *
  clear F0 c1 hf hF hln hx okx
  obtain ⟨xop, xa, xb, xc, xk, xla, xlc, xl⟩ := x
  simp only at *
  have hxlI : (xl.length : Int) ≤ 20000000000000 := by omega
  subst hop
  go_enter Tryd.func43, Tryd.ntmps43
  go_upto_region 1 with fail
  generalize (w.alloc (.cells #[.slice fa len cap, .int .i64 mn, .int .i64 mg] 24)).alloc (.cells #[.string f.name, .int .i64 f.ps, .int .i64 f.rs, .slice f.ca f.code.length f.cc] 34) = W0 at *
  have n1 := World.block_lt_of_cell? W0 _ u0
  have n2 := (Array.getElem?_eq_some_iff.1 bc).1
  have n3 := (Array.getElem?_eq_some_iff.1 bf).1
  simp only at n1
  have m1 : b ≠ W0.heap.size := by omega
  have m2 : w.heap.size ≠ W0.heap.size := by omega
  have m3 : w.heap.size + 1 ≠ W0.heap.size := by omega
  have f3 : W0.cell? ⟨w.heap.size + 1, 3, none⟩ = some (.slice f.ca f.code.length f.cc) := at_cells bf 3 rfl
  rw [HCA.out] at f3
  go_upto_region 2 with fail
  have G1 : Fr [] W0 (W0.alloc (.cells #[.int .i64 22, .int .i64 xa, .int .i64 xb, .int .i64 xc, .int .i64 xk, .slice xla xl.length xlc] 39)) := (Fr.refl _ _).alloc _
  have bx := heap_alloc_new W0 (.cells #[.int .i64 22, .int .i64 xa, .int .i64 xb, .int .i64 xc, .int .i64 xk, .slice xla xl.length xlc] 39)
  have gc := (G1.block _ (Array.getElem?_eq_some_iff.1 bc).1 (by simp)).trans bc
  have gf := (G1.block _ (Array.getElem?_eq_some_iff.1 bf).1 (by simp)).trans bf
  have HG : Hid (Fr [] w (W0.alloc (.cells #[.int .i64 22, .int .i64 xa, .int .i64 xb, .int .i64 xc, .int .i64 xk, .slice xla xl.length xlc] 39))) := HF.out.trans G1
  have HFB : Hid (FAt B (W0.alloc (.cells #[.int .i64 22, .int .i64 xa, .int .i64 xb, .int .i64 xc, .int .i64 xk, .slice xla xl.length xlc] 39)) fa F) := HFA.out.fr G1 (by simp)
  clear G1 f3 m1 m2 m3 n1 n2 n3 u0 u1 u2 u3 u4 u5 bc bf HFA HF HX
  generalize W0.alloc (.cells #[.int .i64 22, .int .i64 xa, .int .i64 xb, .int .i64 xc, .int .i64 xk, .slice xla xl.length xlc] 39) = W1 at *
  have x0 : W1.cell? ⟨W0.heap.size, 0, none⟩ = some (.int .i64 22) := at_cells bx 0 rfl
  have x1 : W1.cell? ⟨W0.heap.size, 1, none⟩ = some (.int .i64 xa) := at_cells bx 1 rfl
  have x2 : W1.cell? ⟨W0.heap.size, 2, none⟩ = some (.int .i64 xb) := at_cells bx 2 rfl
  have x3 : W1.cell? ⟨W0.heap.size, 3, none⟩ = some (.int .i64 xc) := at_cells bx 3 rfl
  have x4 : W1.cell? ⟨W0.heap.size, 4, none⟩ = some (.int .i64 xk) := at_cells bx 4 rfl
  have x5 : W1.cell? ⟨W0.heap.size, 5, none⟩ = some (.slice xla xl.length xlc) := at_cells bx 5 rfl
  have f3 : W1.cell? ⟨w.heap.size + 1, 3, none⟩ = some (.slice f.ca f.code.length f.cc) := at_cells gf 3 rfl
  have d0 : W1.cell? ⟨w.heap.size, 0, none⟩ = some (.slice fa len cap) := at_cells gc 0 rfl
  have d2 : W1.cell? ⟨w.heap.size, 2, none⟩ = some (.int .i64 mg) := at_cells gc 2 rfl
  by_cases k0 : 0 ≤ xk
  · by_cases k1 : xk < (f.code.length : Int)
    · by_cases k2 : ¬ xk = (p : Int)
      · have e3 : (xk != (p : Int)) = true := by simpa using k2
        have HV : Hid (numR F mg f p ⟨22, xa, xb, xc, xk, xla, xlc, xl⟩ = true) := by unfold Hid numR; first | (simp [k0, k1, k2]; done) | (simp [k0, k1, k2]; omega)
        go_wp2
        go_ret
        exact ⟨by rw [HV.out]; rfl, HG.out⟩
      · have e3 : (xk != (p : Int)) = false := by simpa using k2
        have HV : Hid (numR F mg f p ⟨22, xa, xb, xc, xk, xla, xlc, xl⟩ = false) := by unfold Hid numR; first | (simp [k0, k1, k2]; done) | (simp [k0, k1, k2]; omega)
        go_wp2
        go_ret
        exact ⟨by rw [HV.out]; rfl, HG.out⟩
    · have HV : Hid (numR F mg f p ⟨22, xa, xb, xc, xk, xla, xlc, xl⟩ = false) := by unfold Hid numR; first | (simp [k0, k1]; done) | (simp [k0, k1]; omega)
      go_wp2
      go_ret
      exact ⟨by rw [HV.out]; rfl, HG.out⟩
  · have HV : Hid (numR F mg f p ⟨22, xa, xb, xc, xk, xla, xlc, xl⟩ = false) := by unfold Hid numR; first | (simp [k0]; done) | (simp [k0]; omega)
    go_wp2
    go_ret
    exact ⟨by rw [HV.out]; rfl, HG.out⟩

set_option maxRecDepth 100000 in
set_option maxHeartbeats 4000000 in
theorem rnum_27 (B : Nat) (w : World) (F : List Fu) (fa : Option Addr) (len cap : Nat) (mn mg : Int) (f : Fu) (x : In) (p : Nat) (hop : x.op = 27) (hx : f.code[p]? = some x) (hf : FuOk B w f) (hF : FAt B w fa F) (hln : F.length = len) (hlm : len ≤ 20000000000000) :
    Calls Tryd.prog 43 #[.agg #[.slice fa len cap, .int .i64 mn, .int .i64 mg], .agg f.arr, .int .i64 p] w fun e w' => e = .returned (.bool (numR F mg f p x)) ∧ Fr [] w w' := by
  have F0 : Fr [] w ((w.alloc (.cells #[.slice fa len cap, .int .i64 mn, .int .i64 mg] 24)).alloc (.cells f.arr 34)) := ((Fr.refl _ _).alloc _).alloc _
  have c1 := heap_alloc_new w (.cells #[.slice fa len cap, .int .i64 mn, .int .i64 mg] 24)
  have bc := (((Fr.refl [] (w.alloc (.cells #[.slice fa len cap, .int .i64 mn, .int .i64 mg] 24))).alloc (.cells f.arr 34)).block _ (Array.getElem?_eq_some_iff.1 c1).1 (by simp)).trans c1
  have bf := blk2 w (.cells #[.slice fa len cap, .int .i64 mn, .int .i64 mg] 24) (.cells f.arr 34)
  have HX : Hid (FuOk B ((w.alloc (.cells #[.slice fa len cap, .int .i64 mn, .int .i64 mg] 24)).alloc (.cells f.arr 34)) f) := hf.fr F0 (by simp)
  have HFA : Hid (FAt B ((w.alloc (.cells #[.slice fa len cap, .int .i64 mn, .int .i64 mg] 24)).alloc (.cells f.arr 34)) fa F) := hF.fr F0 (by simp)
  have HF : Hid (Fr [] w ((w.alloc (.cells #[.slice fa len cap, .int .i64 mn, .int .i64 mg] 24)).alloc (.cells f.arr 34))) := F0
  have HLN : Hid (F.length = len) := hln
  have hfl := hf.kl
  have hflI : (f.code.length : Int) ≤ 20000000000000 := by omega
  have hplt : p < f.code.length := (List.getElem?_eq_some_iff.1 hx).1
  have hpI : (p : Int) < f.code.length := by omega
  have hlI : (len : Int) ≤ 20000000000000 := by omega
  obtain ⟨b, o, hca, hb, xc⟩ := HX.out.k p x hx
  obtain ⟨u0, u1, u2, u3, u4, u5, okx⟩ := xc
  have HCA : Hid (f.ca = some ⟨b, o, none⟩) := hca
  clear hca
  have HOX : Hid _ := okx
  have hxl := okx.kl
  have HNR : Hid (numR F mg f p x = numR F mg f p x) := rfl
  unfold Fu.arr at *
  clear F0 c1 hf hF hln hx okx
  obtain ⟨xop, xa, xb, xc, xk, xla, xlc, xl⟩ := x
  simp only at *
  have hxlI : (xl.length : Int) ≤ 20000000000000 := by omega
  subst hop
  go_enter Tryd.func43, Tryd.ntmps43
  go_upto_region 1 with fail
  generalize (w.alloc (.cells #[.slice fa len cap, .int .i64 mn, .int .i64 mg] 24)).alloc (.cells #[.string f.name, .int .i64 f.ps, .int .i64 f.rs, .slice f.ca f.code.length f.cc] 34) = W0 at *
  have n1 := World.block_lt_of_cell? W0 _ u0
  have n2 := (Array.getElem?_eq_some_iff.1 bc).1
  have n3 := (Array.getElem?_eq_some_iff.1 bf).1
  simp only at n1
  have m1 : b ≠ W0.heap.size := by omega
  have m2 : w.heap.size ≠ W0.heap.size := by omega
  have m3 : w.heap.size + 1 ≠ W0.heap.size := by omega
  have f3 : W0.cell? ⟨w.heap.size + 1, 3, none⟩ = some (.slice f.ca f.code.length f.cc) := at_cells bf 3 rfl
  rw [HCA.out] at f3
  go_upto_region 2 with fail
  have G1 : Fr [] W0 (W0.alloc (.cells #[.int .i64 27, .int .i64 xa, .int .i64 xb, .int .i64 xc, .int .i64 xk, .slice xla xl.length xlc] 39)) := (Fr.refl _ _).alloc _
  have bx := heap_alloc_new W0 (.cells #[.int .i64 27, .int .i64 xa, .int .i64 xb, .int .i64 xc, .int .i64 xk, .slice xla xl.length xlc] 39)
  have gc := (G1.block _ (Array.getElem?_eq_some_iff.1 bc).1 (by simp)).trans bc
  have gf := (G1.block _ (Array.getElem?_eq_some_iff.1 bf).1 (by simp)).trans bf
  have HG : Hid (Fr [] w (W0.alloc (.cells #[.int .i64 27, .int .i64 xa, .int .i64 xb, .int .i64 xc, .int .i64 xk, .slice xla xl.length xlc] 39))) := HF.out.trans G1
  have HFB : Hid (FAt B (W0.alloc (.cells #[.int .i64 27, .int .i64 xa, .int .i64 xb, .int .i64 xc, .int .i64 xk, .slice xla xl.length xlc] 39)) fa F) := HFA.out.fr G1 (by simp)
  clear G1 f3 m1 m2 m3 n1 n2 n3 u0 u1 u2 u3 u4 u5 bc bf HFA HF HX
  generalize W0.alloc (.cells #[.int .i64 27, .int .i64 xa, .int .i64 xb, .int .i64 xc, .int .i64 xk, .slice xla xl.length xlc] 39) = W1 at *
  have x0 : W1.cell? ⟨W0.heap.size, 0, none⟩ = some (.int .i64 27) := at_cells bx 0 rfl
  have x1 : W1.cell? ⟨W0.heap.size, 1, none⟩ = some (.int .i64 xa) := at_cells bx 1 rfl
  have x2 : W1.cell? ⟨W0.heap.size, 2, none⟩ = some (.int .i64 xb) := at_cells bx 2 rfl
  have x3 : W1.cell? ⟨W0.heap.size, 3, none⟩ = some (.int .i64 xc) := at_cells bx 3 rfl
  have x4 : W1.cell? ⟨W0.heap.size, 4, none⟩ = some (.int .i64 xk) := at_cells bx 4 rfl
  have x5 : W1.cell? ⟨W0.heap.size, 5, none⟩ = some (.slice xla xl.length xlc) := at_cells bx 5 rfl
  have f3 : W1.cell? ⟨w.heap.size + 1, 3, none⟩ = some (.slice f.ca f.code.length f.cc) := at_cells gf 3 rfl
  have d0 : W1.cell? ⟨w.heap.size, 0, none⟩ = some (.slice fa len cap) := at_cells gc 0 rfl
  have d2 : W1.cell? ⟨w.heap.size, 2, none⟩ = some (.int .i64 mg) := at_cells gc 2 rfl
  by_cases k0 : 0 ≤ xk
  · by_cases k1 : xk < mg
    · by_cases k2 : (xl.length : Int) ≤ 4
      · have HV : Hid (numR F mg f p ⟨27, xa, xb, xc, xk, xla, xlc, xl⟩ = true) := by unfold Hid numR; first | (simp [k0, k1, k2]; done) | (simp [k0, k1, k2]; omega)
        go_wp2
        go_ret
        exact ⟨by rw [HV.out]; rfl, HG.out⟩
      · have HV : Hid (numR F mg f p ⟨27, xa, xb, xc, xk, xla, xlc, xl⟩ = false) := by unfold Hid numR; first | (simp [k0, k1, k2]; done) | (simp [k0, k1, k2]; omega)
        go_wp2
        go_ret
        exact ⟨by rw [HV.out]; rfl, HG.out⟩
    · have HV : Hid (numR F mg f p ⟨27, xa, xb, xc, xk, xla, xlc, xl⟩ = false) := by unfold Hid numR; first | (simp [k0, k1]; done) | (simp [k0, k1]; omega)
      go_wp2
      go_ret
      exact ⟨by rw [HV.out]; rfl, HG.out⟩
  · have HV : Hid (numR F mg f p ⟨27, xa, xb, xc, xk, xla, xlc, xl⟩ = false) := by unfold Hid numR; first | (simp [k0]; done) | (simp [k0]; omega)
    go_wp2
    go_ret
    exact ⟨by rw [HV.out]; rfl, HG.out⟩
end Go.Proofs.YtdaealionicmjaaDoor
