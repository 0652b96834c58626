/-
  Whether the document takes an instruction; conditions: the code, the function and the instruction lie as told.
-/
import Derived.Test.YtdaealionicmjaaDoorChkP
namespace Go.Proofs.YtdaealionicmjaaDoor
open Go.RowKit
set_option linter.unusedVariables false
set_option linter.unusedSimpArgs false


theorem has_eq (R : List UInt8) (hR : R.length ≤ 1000) (c : Nat) (w : World) : Calls Tryd.prog 42 #[.string (txt R), .int .u8 c] w fun e w' => e = .returned (.bool (hasL R c)) ∧ w = w' := (has_any R hR c w).mono fun e w' h => ⟨h.1, h.2.symm⟩
theorem hid_ {p : Prop} (h : p) : Hid p := h
theorem rf_len : ∀ n, n < 29 → (rfieldsT.getD n []).length ≤ 1000 := by decide
theorem r_len : ∀ n, n < 29 → (readsT.getD n []).length ≤ 1000 := by decide
theorem w_len : ∀ n, n < 29 → (writesT.getD n []).length ≤ 1000 := by decide

set_option maxRecDepth 100000 in
set_option maxHeartbeats 4000000 in
theorem rins_any (B : Nat) (w : World) (F : List Fu) (fa : Option Addr) (len cap : Nat) (mn mg : Int) (f : Fu) (x : In) (p : Nat)  (hx : f.code[p]? = some x) (hf : FuOk B w f) (hF : FAt B w fa F) (hln : F.length = len) (hlm : len ≤ 20000000000000) :
    Calls Tryd.prog 25 #[.agg #[.slice fa len cap, .int .i64 mn, .int .i64 mg], .agg f.arr, .int .i64 p] w fun e w' => e = .returned (.bool (insR F mg f p x)) ∧ Fr [] w w' := by
  have F0 : Fr [] w ((w.alloc (.cells #[.slice fa len cap, .int .i64 mn, .int .i64 mg] 24)).alloc (.cells f.arr 34)) := ((Fr.refl _ _).alloc _).alloc _
  have c1 := heap_alloc_new w (.cells #[.slice fa len cap, .int .i64 mn, .int .i64 mg] 24)
  have bc := (((Fr.refl [] (w.alloc (.cells #[.slice fa len cap, .int .i64 mn, .int .i64 mg] 24))).alloc (.cells f.arr 34)).block _ (Array.getElem?_eq_some_iff.1 c1).1 (by simp)).trans c1
  have bf := blk2 w (.cells #[.slice fa len cap, .int .i64 mn, .int .i64 mg] 24) (.cells f.arr 34)
  have HX : Hid (FuOk B ((w.alloc (.cells #[.slice fa len cap, .int .i64 mn, .int .i64 mg] 24)).alloc (.cells f.arr 34)) f) := hf.fr F0 (by simp)
  have HFA : Hid (FAt B ((w.alloc (.cells #[.slice fa len cap, .int .i64 mn, .int .i64 mg] 24)).alloc (.cells f.arr 34)) fa F) := hF.fr F0 (by simp)
  have HF : Hid (Fr [] w ((w.alloc (.cells #[.slice fa len cap, .int .i64 mn, .int .i64 mg] 24)).alloc (.cells f.arr 34))) := F0
  have HLN : Hid (F.length = len) := hln
  have hfl := hf.kl
  have hflI : (f.code.length : Int) ≤ 20000000000000 := by omega
  have hplt : p < f.code.length := (List.getElem?_eq_some_iff.1 hx).1
  have hpI : (p : Int) < f.code.length := by omega
  have hlI : (len : Int) ≤ 20000000000000 := by omega
  obtain ⟨b, o, hca, hb, xc⟩ := HX.out.k p x hx
  obtain ⟨u0, u1, u2, u3, u4, u5, okx⟩ := xc
  have HCA : Hid (f.ca = some ⟨b, o, none⟩) := hca
  clear hca
  have HOX : Hid _ := okx
  have hxl := okx.kl
  have HHX : Hid (f.code[p]? = some x) := hx
  have HNR : Hid (insR F mg f p x = insR F mg f p x) := rfl
  unfold Fu.arr at *
  clear F0 c1 hf hF hln hx okx
  obtain ⟨xop, xa, xb, xc, xk, xla, xlc, xl⟩ := x
  simp only at *
  have hxlI : (xl.length : Int) ≤ 20000000000000 := by omega
  go_enter Tryd.func25, Tryd.ntmps25
  go_upto_region 1 with fail
  generalize (w.alloc (.cells #[.slice fa len cap, .int .i64 mn, .int .i64 mg] 24)).alloc (.cells #[.string f.name, .int .i64 f.ps, .int .i64 f.rs, .slice f.ca f.code.length f.cc] 34) = W0 at *
  have n1 := World.block_lt_of_cell? W0 _ u0
  have n2 := (Array.getElem?_eq_some_iff.1 bc).1
  have n3 := (Array.getElem?_eq_some_iff.1 bf).1
  simp only at n1
  have m1 : b ≠ W0.heap.size := by omega
  have m2 : w.heap.size ≠ W0.heap.size := by omega
  have m3 : w.heap.size + 1 ≠ W0.heap.size := by omega
  have f3 : W0.cell? ⟨w.heap.size + 1, 3, none⟩ = some (.slice f.ca f.code.length f.cc) := at_cells bf 3 rfl
  rw [HCA.out] at f3
  go_upto_region 2 with fail
  have G1 : Fr [] W0 (W0.alloc (.cells #[.int .i64 xop, .int .i64 xa, .int .i64 xb, .int .i64 xc, .int .i64 xk, .slice xla xl.length xlc] 39)) := (Fr.refl _ _).alloc _
  have bx := heap_alloc_new W0 (.cells #[.int .i64 xop, .int .i64 xa, .int .i64 xb, .int .i64 xc, .int .i64 xk, .slice xla xl.length xlc] 39)
  have gc := (G1.block _ (Array.getElem?_eq_some_iff.1 bc).1 (by simp)).trans bc
  have gf := (G1.block _ (Array.getElem?_eq_some_iff.1 bf).1 (by simp)).trans bf
  have HG : Hid (Fr [] w (W0.alloc (.cells #[.int .i64 xop, .int .i64 xa, .int .i64 xb, .int .i64 xc, .int .i64 xk, .slice xla xl.length xlc] 39))) := HF.out.trans G1
  have HOY := hid_ (HOX.out.fr G1 (by simp))
  have HXB := hid_ (HX.out.fr G1 (by simp))
  have HFB : Hid (FAt B (W0.alloc (.cells #[.int .i64 xop, .int .i64 xa, .int .i64 xb, .int .i64 xc, .int .i64 xk, .slice xla xl.length xlc] 39)) fa F) := HFA.out.fr G1 (by simp)
  clear G1 f3 m1 m2 m3 n1 n2 n3 u0 u1 u2 u3 u4 u5 bc bf HFA HF HX
  generalize W0.alloc (.cells #[.int .i64 xop, .int .i64 xa, .int .i64 xb, .int .i64 xc, .int .i64 xk, .slice xla xl.length xlc] 39) = W1 at *
  have x0 : ∀ w', Fr [] W1 w' → w'.cell? ⟨W0.heap.size, 0, none⟩ = some (.int .i64 xop) := fun w' f => f.cell1 (at_cells bx 0 rfl) (by simp)
  have x1 : ∀ w', Fr [] W1 w' → w'.cell? ⟨W0.heap.size, 1, none⟩ = some (.int .i64 xa) := fun w' f => f.cell1 (at_cells bx 1 rfl) (by simp)
  have x2 : ∀ w', Fr [] W1 w' → w'.cell? ⟨W0.heap.size, 2, none⟩ = some (.int .i64 xb) := fun w' f => f.cell1 (at_cells bx 2 rfl) (by simp)
  have x3 : ∀ w', Fr [] W1 w' → w'.cell? ⟨W0.heap.size, 3, none⟩ = some (.int .i64 xc) := fun w' f => f.cell1 (at_cells bx 3 rfl) (by simp)
  have x4 : ∀ w', Fr [] W1 w' → w'.cell? ⟨W0.heap.size, 4, none⟩ = some (.int .i64 xk) := fun w' f => f.cell1 (at_cells bx 4 rfl) (by simp)
  have x5 : ∀ w', Fr [] W1 w' → w'.cell? ⟨W0.heap.size, 5, none⟩ = some (.slice xla xl.length xlc) := fun w' f => f.cell1 (at_cells bx 5 rfl) (by simp)
  have f0 : ∀ w', Fr [] W1 w' → w'.cell? ⟨w.heap.size + 1, 0, none⟩ = some (.string f.name) := fun w' f => f.cell1 (at_cells gf 0 rfl) (by simp)
  have f1 : ∀ w', Fr [] W1 w' → w'.cell? ⟨w.heap.size + 1, 1, none⟩ = some (.int .i64 f.ps) := fun w' f => f.cell1 (at_cells gf 1 rfl) (by simp)
  have f2 : ∀ w', Fr [] W1 w' → w'.cell? ⟨w.heap.size + 1, 2, none⟩ = some (.int .i64 f.rs) := fun w' f => f.cell1 (at_cells gf 2 rfl) (by simp)
  have f3 : ∀ w', Fr [] W1 w' → w'.cell? ⟨w.heap.size + 1, 3, none⟩ = some (.slice f.ca f.code.length f.cc) := fun w' f => f.cell1 (at_cells gf 3 rfl) (by simp)
  have d0 : ∀ w', Fr [] W1 w' → w'.cell? ⟨w.heap.size, 0, none⟩ = some (.slice fa len cap) := fun w' f => f.cell1 (at_cells gc 0 rfl) (by simp)
  have d1 : ∀ w', Fr [] W1 w' → w'.cell? ⟨w.heap.size, 1, none⟩ = some (.int .i64 mn) := fun w' f => f.cell1 (at_cells gc 1 rfl) (by simp)
  have d2 : ∀ w', Fr [] W1 w' → w'.cell? ⟨w.heap.size, 2, none⟩ = some (.int .i64 mg) := fun w' f => f.cell1 (at_cells gc 2 rfl) (by simp)
  have RF : Fr [] W1 W1 := Fr.refl _ _
  have HKA : Hid (∀ w', Fr [] W1 w' → KAt B w' xla xl) := fun w' f => HOY.out.k.fr f (by simp)
  have C43 : ∀ w', Fr [] W1 w' → Calls Tryd.prog 43 #[.agg #[.slice fa len cap, .int .i64 mn, .int .i64 mg], .agg #[.string f.name, .int .i64 f.ps, .int .i64 f.rs, .slice f.ca f.code.length f.cc], .int .i64 p] w' (fun e w'' => e = .returned (.bool (numR F mg f p ⟨xop, xa, xb, xc, xk, xla, xlc, xl⟩)) ∧ Fr [] w' w'') := fun w' g => rnumber_any B w' F fa len cap mn mg f _ p HHX.out (HXB.out.fr g (by simp)) (HFB.out.fr g (by simp)) HLN.out hlm
  have H43 := hid_ C43
  clear C43
  have x0' := x0 _ RF
  have C32 := fun w' => Calls.mono (rrow_any xop w') (fun e w'' (h : e = .returned (rowV xop) ∧ w'' = w') => (⟨h.1, h.2.symm⟩ : e = .returned (rowV xop) ∧ w' = w''))
  unfold rowV at C32
  cases hn : (txt (rnT xop)).toList.isEmpty with
  | true =>
    have HV : Hid (insR F mg f p ⟨xop, xa, xb, xc, xk, xla, xlc, xl⟩ = false) := by unfold Hid insR; simp only [hn]; rfl
    go_wp2_with (go_at_call 32; with_reducible (refine (C32 _).mono ?_); rintro e w' ⟨rfl, rfl⟩)
    go_ret
    exact ⟨by rw [HV.out]; rfl, HG.out⟩
  | false =>
    have HV : Hid (insR F mg f p ⟨xop, xa, xb, xc, xk, xla, xlc, xl⟩ = (abcR ⟨xop, xa, xb, xc, xk, xla, xlc, xl⟩ f [65, 66, 67] && ((hasL (rfT xop) 75 || xk == 0) && ((hasL (rfT xop) 76 || decide (xl.length = 0)) && (listR f xl && (lastR f p ⟨xop, xa, xb, xc, xk, xla, xlc, xl⟩ && numR F mg f p ⟨xop, xa, xb, xc, xk, xla, xlc, xl⟩)))))) := by unfold Hid insR; simp only [hn]; rfl
    go_wp2_with (go_at_call 32; with_reducible (refine (C32 _).mono ?_); rintro e w' ⟨rfl, rfl⟩)
    have hF1 : (rfT xop).length ≤ 1000 := rf_len _ (rowN_lt xop)
    have hR1 : (rT xop).length ≤ 1000 := r_len _ (rowN_lt xop)
    have hW1 : (wT xop).length ≤ 1000 := w_len _ (rowN_lt xop)
    have CF65 : ∀ w', Calls Tryd.prog 42 #[.string (txt (rfT xop)), .int .u8 65] w' (fun e w'' => e = .returned (.bool (hasL (rfT xop) 65)) ∧ w' = w'') := fun w' => has_eq _ hF1 65 w'
    have CF66 : ∀ w', Calls Tryd.prog 42 #[.string (txt (rfT xop)), .int .u8 66] w' (fun e w'' => e = .returned (.bool (hasL (rfT xop) 66)) ∧ w' = w'') := fun w' => has_eq _ hF1 66 w'
    have CF67 : ∀ w', Calls Tryd.prog 42 #[.string (txt (rfT xop)), .int .u8 67] w' (fun e w'' => e = .returned (.bool (hasL (rfT xop) 67)) ∧ w' = w'') := fun w' => has_eq _ hF1 67 w'
    have CF75 : ∀ w', Calls Tryd.prog 42 #[.string (txt (rfT xop)), .int .u8 75] w' (fun e w'' => e = .returned (.bool (hasL (rfT xop) 75)) ∧ w' = w'') := fun w' => has_eq _ hF1 75 w'
    have CF76 : ∀ w', Calls Tryd.prog 42 #[.string (txt (rfT xop)), .int .u8 76] w' (fun e w'' => e = .returned (.bool (hasL (rfT xop) 76)) ∧ w' = w'') := fun w' => has_eq _ hF1 76 w'
    have CR65 : ∀ w', Calls Tryd.prog 42 #[.string (txt (rT xop)), .int .u8 65] w' (fun e w'' => e = .returned (.bool (hasL (rT xop) 65)) ∧ w' = w'') := fun w' => has_eq _ hR1 65 w'
    have CR66 : ∀ w', Calls Tryd.prog 42 #[.string (txt (rT xop)), .int .u8 66] w' (fun e w'' => e = .returned (.bool (hasL (rT xop) 66)) ∧ w' = w'') := fun w' => has_eq _ hR1 66 w'
    have CR67 : ∀ w', Calls Tryd.prog 42 #[.string (txt (rT xop)), .int .u8 67] w' (fun e w'' => e = .returned (.bool (hasL (rT xop) 67)) ∧ w' = w'') := fun w' => has_eq _ hR1 67 w'
    have CW65 : ∀ w', Calls Tryd.prog 42 #[.string (txt (wT xop)), .int .u8 65] w' (fun e w'' => e = .returned (.bool (hasL (wT xop) 65)) ∧ w' = w'') := fun w' => has_eq _ hW1 65 w'
    have CW66 : ∀ w', Calls Tryd.prog 42 #[.string (txt (wT xop)), .int .u8 66] w' (fun e w'' => e = .returned (.bool (hasL (wT xop) 66)) ∧ w' = w'') := fun w' => has_eq _ hW1 66 w'
    have CW67 : ∀ w', Calls Tryd.prog 42 #[.string (txt (wT xop)), .int .u8 67] w' (fun e w'' => e = .returned (.bool (hasL (wT xop) 67)) ∧ w' = w'') := fun w' => has_eq _ hW1 67 w'
    have CV65 : ∀ w', Calls Tryd.prog 34 #[.agg #[.int .i64 xop, .int .i64 xa, .int .i64 xb, .int .i64 xc, .int .i64 xk, .slice xla xl.length xlc], .int .u8 65] w' (fun e w'' => e = .returned (.int .i64 xa) ∧ Fr [] w' w'') := fun w' => field_any ⟨xop, xa, xb, xc, xk, xla, xlc, xl⟩ 65 w'
    have CV66 : ∀ w', Calls Tryd.prog 34 #[.agg #[.int .i64 xop, .int .i64 xa, .int .i64 xb, .int .i64 xc, .int .i64 xk, .slice xla xl.length xlc], .int .u8 66] w' (fun e w'' => e = .returned (.int .i64 xb) ∧ Fr [] w' w'') := fun w' => field_any ⟨xop, xa, xb, xc, xk, xla, xlc, xl⟩ 66 w'
    have CV67 : ∀ w', Calls Tryd.prog 34 #[.agg #[.int .i64 xop, .int .i64 xa, .int .i64 xb, .int .i64 xc, .int .i64 xk, .slice xla xl.length xlc], .int .u8 67] w' (fun e w'' => e = .returned (.int .i64 xc) ∧ Fr [] w' w'') := fun w' => field_any ⟨xop, xa, xb, xc, xk, xla, xlc, xl⟩ 67 w'
    have ch0 : ((⟨#[65, 66, 67]⟩ : ByteArray)[0]'(by decide)).toNat = 65 := rfl
    have ch1 : ((⟨#[65, 66, 67]⟩ : ByteArray)[1]'(by decide)).toNat = 66 := rfl
    have ch2 : ((⟨#[65, 66, 67]⟩ : ByteArray)[2]'(by decide)).toNat = 67 := rfl
    have HGW : Hid (∀ w', Fr [] W1 w' → Fr [] w w') := fun w' f => HG.out.trans f
    generalize txt (rfT xop) = SF at *
    generalize txt (rT xop) = SR at *
    generalize txt (wT xop) = SW at *
    clear C32 hF1 hR1 hW1 x0' hn
    go_loopw [12, 13, 14] (fun i _ _ wr => ∃ q : Nat, q ≤ 3 ∧ i = .int .i64 q ∧ Fr [] W1 wr ∧ Hid (abcR ⟨xop, xa, xb, xc, xk, xla, xlc, xl⟩ f ([65, 66, 67].drop q) = abcR ⟨xop, xa, xb, xc, xk, xla, xlc, xl⟩ f [65, 66, 67])) (fun i _ _ _ => 3 - (intOf i).toNat)
    case atStart => exact ⟨0, by omega, rfl, Fr.refl _ _, rfl⟩
    case round =>
      obtain ⟨q, hq, rfl, fw, he⟩ := hrel
      by_cases hlt : q < 3
      · have hc : q = 0 ∨ q = 1 ∨ q = 2 := by omega
        clear hq hlt
        rcases hc with rfl | rfl | rfl
        · have HB : Hid (abcR ⟨xop, xa, xb, xc, xk, xla, xlc, xl⟩ f [65, 66, 67] = (oneR ⟨xop, xa, xb, xc, xk, xla, xlc, xl⟩ f 65 && abcR ⟨xop, xa, xb, xc, xk, xla, xlc, xl⟩ f ([65, 66, 67].drop 1))) := he.out.symm
          have HO : Hid (oneR ⟨xop, xa, xb, xc, xk, xla, xlc, xl⟩ f 65 = ((hasL (rfT xop) 65 || xa == 0) && (!(hasL (rT xop) 65 || hasL (wT xop) 65) || (decide (0 ≤ xa) && decide (xa < f.rs))))) := rfl
          clear he
          cases hF : hasL (rfT xop) 65 with
          | true =>
            rw [hF] at CF65
            cases hR : hasL (rT xop) 65 with
            | true =>
              rw [hR] at CR65
              by_cases k0 : 0 ≤ xa
              · have k0' : ¬ xa < 0 := by omega
                by_cases k1 : xa < f.rs
                · have k1' : ¬ f.rs ≤ xa := by omega
                  have HY : Hid (abcR ⟨xop, xa, xb, xc, xk, xla, xlc, xl⟩ f ([65, 66, 67].drop 1) = abcR ⟨xop, xa, xb, xc, xk, xla, xlc, xl⟩ f [65, 66, 67]) := by unfold Hid; rw [HB.out, HO.out]; simp [hF, hR, k0, k1]
                  clear HB HO
                  go_wp2_with (first | (go_at_call 34; with_reducible (refine (CV65 _).mono ?_); rintro e w2 ⟨rfl, f2⟩; have F2 := Fr.trans fw f2) | (go_at_call 42; with_reducible (refine (CF65 _).mono ?_); rintro e w' ⟨rfl, rfl⟩) | (go_at_call 42; with_reducible (refine (CR65 _).mono ?_); rintro e w' ⟨rfl, rfl⟩) | (go_at_call 42; with_reducible (refine (CW65 _).mono ?_); rintro e w' ⟨rfl, rfl⟩))
                  go_roundw
                  case rel => exact ⟨1, by omega, by go_num, F2, HY⟩
                  case measure => simp [intOf]
                · have k1' : f.rs ≤ xa := by omega
                  have HN : Hid (insR F mg f p ⟨xop, xa, xb, xc, xk, xla, xlc, xl⟩ = false) := by unfold Hid; rw [HV.out, HB.out, HO.out]; simp [hF, hR, k0, k1]
                  clear HV HB HO
                  go_wp2_with (first | (go_at_call 34; with_reducible (refine (CV65 _).mono ?_); rintro e w2 ⟨rfl, f2⟩; have F2 := Fr.trans fw f2) | (go_at_call 42; with_reducible (refine (CF65 _).mono ?_); rintro e w' ⟨rfl, rfl⟩) | (go_at_call 42; with_reducible (refine (CR65 _).mono ?_); rintro e w' ⟨rfl, rfl⟩) | (go_at_call 42; with_reducible (refine (CW65 _).mono ?_); rintro e w' ⟨rfl, rfl⟩))
                  go_ret
                  exact ⟨by rw [HN.out]; rfl, HGW.out _ F2⟩
              · have k0' : xa < 0 := by omega
                have HN : Hid (insR F mg f p ⟨xop, xa, xb, xc, xk, xla, xlc, xl⟩ = false) := by unfold Hid; rw [HV.out, HB.out, HO.out]; simp [hF, hR, k0]
                clear HV HB HO
                go_wp2_with (first | (go_at_call 34; with_reducible (refine (CV65 _).mono ?_); rintro e w2 ⟨rfl, f2⟩; have F2 := Fr.trans fw f2) | (go_at_call 42; with_reducible (refine (CF65 _).mono ?_); rintro e w' ⟨rfl, rfl⟩) | (go_at_call 42; with_reducible (refine (CR65 _).mono ?_); rintro e w' ⟨rfl, rfl⟩) | (go_at_call 42; with_reducible (refine (CW65 _).mono ?_); rintro e w' ⟨rfl, rfl⟩))
                go_ret
                exact ⟨by rw [HN.out]; rfl, HGW.out _ F2⟩
            | false =>
              rw [hR] at CR65
              cases hW : hasL (wT xop) 65 with
              | true =>
                rw [hW] at CW65
                by_cases k0 : 0 ≤ xa
                · have k0' : ¬ xa < 0 := by omega
                  by_cases k1 : xa < f.rs
                  · have k1' : ¬ f.rs ≤ xa := by omega
                    have HY : Hid (abcR ⟨xop, xa, xb, xc, xk, xla, xlc, xl⟩ f ([65, 66, 67].drop 1) = abcR ⟨xop, xa, xb, xc, xk, xla, xlc, xl⟩ f [65, 66, 67]) := by unfold Hid; rw [HB.out, HO.out]; simp [hF, hR, hW, k0, k1]
                    clear HB HO
                    go_wp2_with (first | (go_at_call 34; with_reducible (refine (CV65 _).mono ?_); rintro e w2 ⟨rfl, f2⟩; have F2 := Fr.trans fw f2) | (go_at_call 42; with_reducible (refine (CF65 _).mono ?_); rintro e w' ⟨rfl, rfl⟩) | (go_at_call 42; with_reducible (refine (CR65 _).mono ?_); rintro e w' ⟨rfl, rfl⟩) | (go_at_call 42; with_reducible (refine (CW65 _).mono ?_); rintro e w' ⟨rfl, rfl⟩))
                    go_roundw
                    case rel => exact ⟨1, by omega, by go_num, F2, HY⟩
                    case measure => simp [intOf]
                  · have k1' : f.rs ≤ xa := by omega
                    have HN : Hid (insR F mg f p ⟨xop, xa, xb, xc, xk, xla, xlc, xl⟩ = false) := by unfold Hid; rw [HV.out, HB.out, HO.out]; simp [hF, hR, hW, k0, k1]
                    clear HV HB HO
                    go_wp2_with (first | (go_at_call 34; with_reducible (refine (CV65 _).mono ?_); rintro e w2 ⟨rfl, f2⟩; have F2 := Fr.trans fw f2) | (go_at_call 42; with_reducible (refine (CF65 _).mono ?_); rintro e w' ⟨rfl, rfl⟩) | (go_at_call 42; with_reducible (refine (CR65 _).mono ?_); rintro e w' ⟨rfl, rfl⟩) | (go_at_call 42; with_reducible (refine (CW65 _).mono ?_); rintro e w' ⟨rfl, rfl⟩))
                    go_ret
                    exact ⟨by rw [HN.out]; rfl, HGW.out _ F2⟩
                · have k0' : xa < 0 := by omega
                  have HN : Hid (insR F mg f p ⟨xop, xa, xb, xc, xk, xla, xlc, xl⟩ = false) := by unfold Hid; rw [HV.out, HB.out, HO.out]; simp [hF, hR, hW, k0]
                  clear HV HB HO
                  go_wp2_with (first | (go_at_call 34; with_reducible (refine (CV65 _).mono ?_); rintro e w2 ⟨rfl, f2⟩; have F2 := Fr.trans fw f2) | (go_at_call 42; with_reducible (refine (CF65 _).mono ?_); rintro e w' ⟨rfl, rfl⟩) | (go_at_call 42; with_reducible (refine (CR65 _).mono ?_); rintro e w' ⟨rfl, rfl⟩) | (go_at_call 42; with_reducible (refine (CW65 _).mono ?_); rintro e w' ⟨rfl, rfl⟩))
                  go_ret
                  exact ⟨by rw [HN.out]; rfl, HGW.out _ F2⟩
              | false =>
                rw [hW] at CW65
                have HY : Hid (abcR ⟨xop, xa, xb, xc, xk, xla, xlc, xl⟩ f ([65, 66, 67].drop 1) = abcR ⟨xop, xa, xb, xc, xk, xla, xlc, xl⟩ f [65, 66, 67]) := by unfold Hid; rw [HB.out, HO.out]; simp [hF, hR, hW]
                clear HB HO
                go_wp2_with (first | (go_at_call 34; with_reducible (refine (CV65 _).mono ?_); rintro e w2 ⟨rfl, f2⟩; have F2 := Fr.trans fw f2) | (go_at_call 42; with_reducible (refine (CF65 _).mono ?_); rintro e w' ⟨rfl, rfl⟩) | (go_at_call 42; with_reducible (refine (CR65 _).mono ?_); rintro e w' ⟨rfl, rfl⟩) | (go_at_call 42; with_reducible (refine (CW65 _).mono ?_); rintro e w' ⟨rfl, rfl⟩))
                go_roundw
                case rel => exact ⟨1, by omega, by go_num, F2, HY⟩
                case measure => simp [intOf]
          | false =>
            rw [hF] at CF65
            by_cases kz : xa = 0
            · subst kz
              cases hR : hasL (rT xop) 65 with
              | true =>
                rw [hR] at CR65
                by_cases k1 : 0 < f.rs
                · have k1' : ¬ f.rs ≤ 0 := by omega
                  have HY : Hid (abcR ⟨xop, 0, xb, xc, xk, xla, xlc, xl⟩ f ([65, 66, 67].drop 1) = abcR ⟨xop, 0, xb, xc, xk, xla, xlc, xl⟩ f [65, 66, 67]) := by unfold Hid; rw [HB.out, HO.out]; simp [hF, hR, k1]
                  clear HB HO
                  go_wp2_with (first | (go_at_call 34; with_reducible (refine (CV65 _).mono ?_); rintro e w2 ⟨rfl, f2⟩; have F2 := Fr.trans fw f2) | (go_at_call 42; with_reducible (refine (CF65 _).mono ?_); rintro e w' ⟨rfl, rfl⟩) | (go_at_call 42; with_reducible (refine (CR65 _).mono ?_); rintro e w' ⟨rfl, rfl⟩) | (go_at_call 42; with_reducible (refine (CW65 _).mono ?_); rintro e w' ⟨rfl, rfl⟩))
                  go_roundw
                  case rel => exact ⟨1, by omega, by go_num, F2, HY⟩
                  case measure => simp [intOf]
                · have k1' : f.rs ≤ 0 := by omega
                  have HN : Hid (insR F mg f p ⟨xop, 0, xb, xc, xk, xla, xlc, xl⟩ = false) := by unfold Hid; rw [HV.out, HB.out, HO.out]; simp [hF, hR, k1]
                  clear HV HB HO
                  go_wp2_with (first | (go_at_call 34; with_reducible (refine (CV65 _).mono ?_); rintro e w2 ⟨rfl, f2⟩; have F2 := Fr.trans fw f2) | (go_at_call 42; with_reducible (refine (CF65 _).mono ?_); rintro e w' ⟨rfl, rfl⟩) | (go_at_call 42; with_reducible (refine (CR65 _).mono ?_); rintro e w' ⟨rfl, rfl⟩) | (go_at_call 42; with_reducible (refine (CW65 _).mono ?_); rintro e w' ⟨rfl, rfl⟩))
                  go_ret
                  exact ⟨by rw [HN.out]; rfl, HGW.out _ F2⟩
              | false =>
                rw [hR] at CR65
                cases hW : hasL (wT xop) 65 with
                | true =>
                  rw [hW] at CW65
                  by_cases k1 : 0 < f.rs
                  · have k1' : ¬ f.rs ≤ 0 := by omega
                    have HY : Hid (abcR ⟨xop, 0, xb, xc, xk, xla, xlc, xl⟩ f ([65, 66, 67].drop 1) = abcR ⟨xop, 0, xb, xc, xk, xla, xlc, xl⟩ f [65, 66, 67]) := by unfold Hid; rw [HB.out, HO.out]; simp [hF, hR, hW, k1]
                    clear HB HO
                    go_wp2_with (first | (go_at_call 34; with_reducible (refine (CV65 _).mono ?_); rintro e w2 ⟨rfl, f2⟩; have F2 := Fr.trans fw f2) | (go_at_call 42; with_reducible (refine (CF65 _).mono ?_); rintro e w' ⟨rfl, rfl⟩) | (go_at_call 42; with_reducible (refine (CR65 _).mono ?_); rintro e w' ⟨rfl, rfl⟩) | (go_at_call 42; with_reducible (refine (CW65 _).mono ?_); rintro e w' ⟨rfl, rfl⟩))
                    go_roundw
                    case rel => exact ⟨1, by omega, by go_num, F2, HY⟩
                    case measure => simp [intOf]
                  · have k1' : f.rs ≤ 0 := by omega
                    have HN : Hid (insR F mg f p ⟨xop, 0, xb, xc, xk, xla, xlc, xl⟩ = false) := by unfold Hid; rw [HV.out, HB.out, HO.out]; simp [hF, hR, hW, k1]
                    clear HV HB HO
                    go_wp2_with (first | (go_at_call 34; with_reducible (refine (CV65 _).mono ?_); rintro e w2 ⟨rfl, f2⟩; have F2 := Fr.trans fw f2) | (go_at_call 42; with_reducible (refine (CF65 _).mono ?_); rintro e w' ⟨rfl, rfl⟩) | (go_at_call 42; with_reducible (refine (CR65 _).mono ?_); rintro e w' ⟨rfl, rfl⟩) | (go_at_call 42; with_reducible (refine (CW65 _).mono ?_); rintro e w' ⟨rfl, rfl⟩))
                    go_ret
                    exact ⟨by rw [HN.out]; rfl, HGW.out _ F2⟩
                | false =>
                  rw [hW] at CW65
                  have HY : Hid (abcR ⟨xop, 0, xb, xc, xk, xla, xlc, xl⟩ f ([65, 66, 67].drop 1) = abcR ⟨xop, 0, xb, xc, xk, xla, xlc, xl⟩ f [65, 66, 67]) := by unfold Hid; rw [HB.out, HO.out]; simp [hF, hR, hW]
                  clear HB HO
                  go_wp2_with (first | (go_at_call 34; with_reducible (refine (CV65 _).mono ?_); rintro e w2 ⟨rfl, f2⟩; have F2 := Fr.trans fw f2) | (go_at_call 42; with_reducible (refine (CF65 _).mono ?_); rintro e w' ⟨rfl, rfl⟩) | (go_at_call 42; with_reducible (refine (CR65 _).mono ?_); rintro e w' ⟨rfl, rfl⟩) | (go_at_call 42; with_reducible (refine (CW65 _).mono ?_); rintro e w' ⟨rfl, rfl⟩))
                  go_roundw
                  case rel => exact ⟨1, by omega, by go_num, F2, HY⟩
                  case measure => simp [intOf]
            · have kz' : (xa != 0) = true := by simpa using kz
              have HN : Hid (insR F mg f p ⟨xop, xa, xb, xc, xk, xla, xlc, xl⟩ = false) := by unfold Hid; rw [HV.out, HB.out, HO.out]; simp [hF, kz]
              clear HV HB HO
              go_wp2_with (first | (go_at_call 34; with_reducible (refine (CV65 _).mono ?_); rintro e w2 ⟨rfl, f2⟩; have F2 := Fr.trans fw f2) | (go_at_call 42; with_reducible (refine (CF65 _).mono ?_); rintro e w' ⟨rfl, rfl⟩) | (go_at_call 42; with_reducible (refine (CR65 _).mono ?_); rintro e w' ⟨rfl, rfl⟩) | (go_at_call 42; with_reducible (refine (CW65 _).mono ?_); rintro e w' ⟨rfl, rfl⟩))
              go_ret
              exact ⟨by rw [HN.out]; rfl, HGW.out _ F2⟩
        · have HB : Hid (abcR ⟨xop, xa, xb, xc, xk, xla, xlc, xl⟩ f [65, 66, 67] = (oneR ⟨xop, xa, xb, xc, xk, xla, xlc, xl⟩ f 66 && abcR ⟨xop, xa, xb, xc, xk, xla, xlc, xl⟩ f ([65, 66, 67].drop 2))) := he.out.symm
          have HO : Hid (oneR ⟨xop, xa, xb, xc, xk, xla, xlc, xl⟩ f 66 = ((hasL (rfT xop) 66 || xb == 0) && (!(hasL (rT xop) 66 || hasL (wT xop) 66) || (decide (0 ≤ xb) && decide (xb < f.rs))))) := rfl
          clear he
          cases hF : hasL (rfT xop) 66 with
          | true =>
            rw [hF] at CF66
            cases hR : hasL (rT xop) 66 with
            | true =>
              rw [hR] at CR66
              by_cases k0 : 0 ≤ xb
              · have k0' : ¬ xb < 0 := by omega
                by_cases k1 : xb < f.rs
                · have k1' : ¬ f.rs ≤ xb := by omega
                  have HY : Hid (abcR ⟨xop, xa, xb, xc, xk, xla, xlc, xl⟩ f ([65, 66, 67].drop 2) = abcR ⟨xop, xa, xb, xc, xk, xla, xlc, xl⟩ f [65, 66, 67]) := by unfold Hid; rw [HB.out, HO.out]; simp [hF, hR, k0, k1]
                  clear HB HO
                  go_wp2_with (first | (go_at_call 34; with_reducible (refine (CV66 _).mono ?_); rintro e w2 ⟨rfl, f2⟩; have F2 := Fr.trans fw f2) | (go_at_call 42; with_reducible (refine (CF66 _).mono ?_); rintro e w' ⟨rfl, rfl⟩) | (go_at_call 42; with_reducible (refine (CR66 _).mono ?_); rintro e w' ⟨rfl, rfl⟩) | (go_at_call 42; with_reducible (refine (CW66 _).mono ?_); rintro e w' ⟨rfl, rfl⟩))
                  go_roundw
                  case rel => exact ⟨2, by omega, by go_num, F2, HY⟩
                  case measure => simp [intOf]
                · have k1' : f.rs ≤ xb := by omega
                  have HN : Hid (insR F mg f p ⟨xop, xa, xb, xc, xk, xla, xlc, xl⟩ = false) := by unfold Hid; rw [HV.out, HB.out, HO.out]; simp [hF, hR, k0, k1]
                  clear HV HB HO
                  go_wp2_with (first | (go_at_call 34; with_reducible (refine (CV66 _).mono ?_); rintro e w2 ⟨rfl, f2⟩; have F2 := Fr.trans fw f2) | (go_at_call 42; with_reducible (refine (CF66 _).mono ?_); rintro e w' ⟨rfl, rfl⟩) | (go_at_call 42; with_reducible (refine (CR66 _).mono ?_); rintro e w' ⟨rfl, rfl⟩) | (go_at_call 42; with_reducible (refine (CW66 _).mono ?_); rintro e w' ⟨rfl, rfl⟩))
                  go_ret
                  exact ⟨by rw [HN.out]; rfl, HGW.out _ F2⟩
              · have k0' : xb < 0 := by omega
                have HN : Hid (insR F mg f p ⟨xop, xa, xb, xc, xk, xla, xlc, xl⟩ = false) := by unfold Hid; rw [HV.out, HB.out, HO.out]; simp [hF, hR, k0]
                clear HV HB HO
                go_wp2_with (first | (go_at_call 34; with_reducible (refine (CV66 _).mono ?_); rintro e w2 ⟨rfl, f2⟩; have F2 := Fr.trans fw f2) | (go_at_call 42; with_reducible (refine (CF66 _).mono ?_); rintro e w' ⟨rfl, rfl⟩) | (go_at_call 42; with_reducible (refine (CR66 _).mono ?_); rintro e w' ⟨rfl, rfl⟩) | (go_at_call 42; with_reducible (refine (CW66 _).mono ?_); rintro e w' ⟨rfl, rfl⟩))
                go_ret
                exact ⟨by rw [HN.out]; rfl, HGW.out _ F2⟩
            | false =>
              rw [hR] at CR66
              cases hW : hasL (wT xop) 66 with
              | true =>
                rw [hW] at CW66
                by_cases k0 : 0 ≤ xb
                · have k0' : ¬ xb < 0 := by omega
                  by_cases k1 : xb < f.rs
                  · have k1' : ¬ f.rs ≤ xb := by omega
                    have HY : Hid (abcR ⟨xop, xa, xb, xc, xk, xla, xlc, xl⟩ f ([65, 66, 67].drop 2) = abcR ⟨xop, xa, xb, xc, xk, xla, xlc, xl⟩ f [65, 66, 67]) := by unfold Hid; rw [HB.out, HO.out]; simp [hF, hR, hW, k0, k1]
                    clear HB HO
                    go_wp2_with (first | (go_at_call 34; with_reducible (refine (CV66 _).mono ?_); rintro e w2 ⟨rfl, f2⟩; have F2 := Fr.trans fw f2) | (go_at_call 42; with_reducible (refine (CF66 _).mono ?_); rintro e w' ⟨rfl, rfl⟩) | (go_at_call 42; with_reducible (refine (CR66 _).mono ?_); rintro e w' ⟨rfl, rfl⟩) | (go_at_call 42; with_reducible (refine (CW66 _).mono ?_); rintro e w' ⟨rfl, rfl⟩))
                    go_roundw
                    case rel => exact ⟨2, by omega, by go_num, F2, HY⟩
                    case measure => simp [intOf]
                  · have k1' : f.rs ≤ xb := by omega
                    have HN : Hid (insR F mg f p ⟨xop, xa, xb, xc, xk, xla, xlc, xl⟩ = false) := by unfold Hid; rw [HV.out, HB.out, HO.out]; simp [hF, hR, hW, k0, k1]
                    clear HV HB HO
                    go_wp2_with (first | (go_at_call 34; with_reducible (refine (CV66 _).mono ?_); rintro e w2 ⟨rfl, f2⟩; have F2 := Fr.trans fw f2) | (go_at_call 42; with_reducible (refine (CF66 _).mono ?_); rintro e w' ⟨rfl, rfl⟩) | (go_at_call 42; with_reducible (refine (CR66 _).mono ?_); rintro e w' ⟨rfl, rfl⟩) | (go_at_call 42; with_reducible (refine (CW66 _).mono ?_); rintro e w' ⟨rfl, rfl⟩))
                    go_ret
                    exact ⟨by rw [HN.out]; rfl, HGW.out _ F2⟩
                · have k0' : xb < 0 := by omega
                  have HN : Hid (insR F mg f p ⟨xop, xa, xb, xc, xk, xla, xlc, xl⟩ = false) := by unfold Hid; rw [HV.out, HB.out, HO.out]; simp [hF, hR, hW, k0]
                  clear HV HB HO
                  go_wp2_with (first | (go_at_call 34; with_reducible (refine (CV66 _).mono ?_); rintro e w2 ⟨rfl, f2⟩; have F2 := Fr.trans fw f2) | (go_at_call 42; with_reducible (refine (CF66 _).mono ?_); rintro e w' ⟨rfl, rfl⟩) | (go_at_call 42; with_reducible (refine (CR66 _).mono ?_); rintro e w' ⟨rfl, rfl⟩) | (go_at_call 42; with_reducible (refine (CW66 _).mono ?_); rintro e w' ⟨rfl, rfl⟩))
                  go_ret
                  exact ⟨by rw [HN.out]; rfl, HGW.out _ F2⟩
              | false =>
                rw [hW] at CW66
                have HY : Hid (abcR ⟨xop, xa, xb, xc, xk, xla, xlc, xl⟩ f ([65, 66, 67].drop 2) = abcR ⟨xop, xa, xb, xc, xk, xla, xlc, xl⟩ f [65, 66, 67]) := by unfold Hid; rw [HB.out, HO.out]; simp [hF, hR, hW]
                clear HB HO
                go_wp2_with (first | (go_at_call 34; with_reducible (refine (CV66 _).mono ?_); rintro e w2 ⟨rfl, f2⟩; have F2 := Fr.trans fw f2) | (go_at_call 42; with_reducible (refine (CF66 _).mono ?_); rintro e w' ⟨rfl, rfl⟩) | (go_at_call 42; with_reducible (refine (CR66 _).mono ?_); rintro e w' ⟨rfl, rfl⟩) | (go_at_call 42; with_reducible (refine (CW66 _).mono ?_); rintro e w' ⟨rfl, rfl⟩))
                go_roundw
                case rel => exact ⟨2, by omega, by go_num, F2, HY⟩
                case measure => simp [intOf]
          | false =>
            rw [hF] at CF66
            by_cases kz : xb = 0
            · subst kz
              cases hR : hasL (rT xop) 66 with
              | true =>
                rw [hR] at CR66
                by_cases k1 : 0 < f.rs
                · have k1' : ¬ f.rs ≤ 0 := by omega
                  have HY : Hid (abcR ⟨xop, xa, 0, xc, xk, xla, xlc, xl⟩ f ([65, 66, 67].drop 2) = abcR ⟨xop, xa, 0, xc, xk, xla, xlc, xl⟩ f [65, 66, 67]) := by unfold Hid; rw [HB.out, HO.out]; simp [hF, hR, k1]
                  clear HB HO
                  go_wp2_with (first | (go_at_call 34; with_reducible (refine (CV66 _).mono ?_); rintro e w2 ⟨rfl, f2⟩; have F2 := Fr.trans fw f2) | (go_at_call 42; with_reducible (refine (CF66 _).mono ?_); rintro e w' ⟨rfl, rfl⟩) | (go_at_call 42; with_reducible (refine (CR66 _).mono ?_); rintro e w' ⟨rfl, rfl⟩) | (go_at_call 42; with_reducible (refine (CW66 _).mono ?_); rintro e w' ⟨rfl, rfl⟩))
                  go_roundw
                  case rel => exact ⟨2, by omega, by go_num, F2, HY⟩
                  case measure => simp [intOf]
                · have k1' : f.rs ≤ 0 := by omega
                  have HN : Hid (insR F mg f p ⟨xop, xa, 0, xc, xk, xla, xlc, xl⟩ = false) := by unfold Hid; rw [HV.out, HB.out, HO.out]; simp [hF, hR, k1]
                  clear HV HB HO
                  go_wp2_with (first | (go_at_call 34; with_reducible (refine (CV66 _).mono ?_); rintro e w2 ⟨rfl, f2⟩; have F2 := Fr.trans fw f2) | (go_at_call 42; with_reducible (refine (CF66 _).mono ?_); rintro e w' ⟨rfl, rfl⟩) | (go_at_call 42; with_reducible (refine (CR66 _).mono ?_); rintro e w' ⟨rfl, rfl⟩) | (go_at_call 42; with_reducible (refine (CW66 _).mono ?_); rintro e w' ⟨rfl, rfl⟩))
                  go_ret
                  exact ⟨by rw [HN.out]; rfl, HGW.out _ F2⟩
              | false =>
                rw [hR] at CR66
                cases hW : hasL (wT xop) 66 with
                | true =>
                  rw [hW] at CW66
                  by_cases k1 : 0 < f.rs
                  · have k1' : ¬ f.rs ≤ 0 := by omega
                    have HY : Hid (abcR ⟨xop, xa, 0, xc, xk, xla, xlc, xl⟩ f ([65, 66, 67].drop 2) = abcR ⟨xop, xa, 0, xc, xk, xla, xlc, xl⟩ f [65, 66, 67]) := by unfold Hid; rw [HB.out, HO.out]; simp [hF, hR, hW, k1]
                    clear HB HO
                    go_wp2_with (first | (go_at_call 34; with_reducible (refine (CV66 _).mono ?_); rintro e w2 ⟨rfl, f2⟩; have F2 := Fr.trans fw f2) | (go_at_call 42; with_reducible (refine (CF66 _).mono ?_); rintro e w' ⟨rfl, rfl⟩) | (go_at_call 42; with_reducible (refine (CR66 _).mono ?_); rintro e w' ⟨rfl, rfl⟩) | (go_at_call 42; with_reducible (refine (CW66 _).mono ?_); rintro e w' ⟨rfl, rfl⟩))
                    go_roundw
                    case rel => exact ⟨2, by omega, by go_num, F2, HY⟩
                    case measure => simp [intOf]
                  · have k1' : f.rs ≤ 0 := by omega
                    have HN : Hid (insR F mg f p ⟨xop, xa, 0, xc, xk, xla, xlc, xl⟩ = false) := by unfold Hid; rw [HV.out, HB.out, HO.out]; simp [hF, hR, hW, k1]
                    clear HV HB HO
                    go_wp2_with (first | (go_at_call 34; with_reducible (refine (CV66 _).mono ?_); rintro e w2 ⟨rfl, f2⟩; have F2 := Fr.trans fw f2) | (go_at_call 42; with_reducible (refine (CF66 _).mono ?_); rintro e w' ⟨rfl, rfl⟩) | (go_at_call 42; with_reducible (refine (CR66 _).mono ?_); rintro e w' ⟨rfl, rfl⟩) | (go_at_call 42; with_reducible (refine (CW66 _).mono ?_); rintro e w' ⟨rfl, rfl⟩))
                    go_ret
                    exact ⟨by rw [HN.out]; rfl, HGW.out _ F2⟩
                | false =>
                  rw [hW] at CW66
                  have HY : Hid (abcR ⟨xop, xa, 0, xc, xk, xla, xlc, xl⟩ f ([65, 66, 67].drop 2) = abcR ⟨xop, xa, 0, xc, xk, xla, xlc, xl⟩ f [65, 66, 67]) := by unfold Hid; rw [HB.out, HO.out]; simp [hF, hR, hW]
                  clear HB HO
                  go_wp2_with (first | (go_at_call 34; with_reducible (refine (CV66 _).mono ?_); rintro e w2 ⟨rfl, f2⟩; have F2 := Fr.trans fw f2) | (go_at_call 42; with_reducible (refine (CF66 _).mono ?_); rintro e w' ⟨rfl, rfl⟩) | (go_at_call 42; with_reducible (refine (CR66 _).mono ?_); rintro e w' ⟨rfl, rfl⟩) | (go_at_call 42; with_reducible (refine (CW66 _).mono ?_); rintro e w' ⟨rfl, rfl⟩))
                  go_roundw
                  case rel => exact ⟨2, by omega, by go_num, F2, HY⟩
                  case measure => simp [intOf]
            · have kz' : (xb != 0) = true := by simpa using kz
              have HN : Hid (insR F mg f p ⟨xop, xa, xb, xc, xk, xla, xlc, xl⟩ = false) := by unfold Hid; rw [HV.out, HB.out, HO.out]; simp [hF, kz]
              clear HV HB HO
              go_wp2_with (first | (go_at_call 34; with_reducible (refine (CV66 _).mono ?_); rintro e w2 ⟨rfl, f2⟩; have F2 := Fr.trans fw f2) | (go_at_call 42; with_reducible (refine (CF66 _).mono ?_); rintro e w' ⟨rfl, rfl⟩) | (go_at_call 42; with_reducible (refine (CR66 _).mono ?_); rintro e w' ⟨rfl, rfl⟩) | (go_at_call 42; with_reducible (refine (CW66 _).mono ?_); rintro e w' ⟨rfl, rfl⟩))
              go_ret
              exact ⟨by rw [HN.out]; rfl, HGW.out _ F2⟩
        · have HB : Hid (abcR ⟨xop, xa, xb, xc, xk, xla, xlc, xl⟩ f [65, 66, 67] = (oneR ⟨xop, xa, xb, xc, xk, xla, xlc, xl⟩ f 67 && abcR ⟨xop, xa, xb, xc, xk, xla, xlc, xl⟩ f ([65, 66, 67].drop 3))) := he.out.symm
          have HO : Hid (oneR ⟨xop, xa, xb, xc, xk, xla, xlc, xl⟩ f 67 = ((hasL (rfT xop) 67 || xc == 0) && (!(hasL (rT xop) 67 || hasL (wT xop) 67) || (decide (0 ≤ xc) && decide (xc < f.rs))))) := rfl
          clear he
          cases hF : hasL (rfT xop) 67 with
          | true =>
            rw [hF] at CF67
            cases hR : hasL (rT xop) 67 with
            | true =>
              rw [hR] at CR67
              by_cases k0 : 0 ≤ xc
              · have k0' : ¬ xc < 0 := by omega
                by_cases k1 : xc < f.rs
                · have k1' : ¬ f.rs ≤ xc := by omega
                  have HY : Hid (abcR ⟨xop, xa, xb, xc, xk, xla, xlc, xl⟩ f ([65, 66, 67].drop 3) = abcR ⟨xop, xa, xb, xc, xk, xla, xlc, xl⟩ f [65, 66, 67]) := by unfold Hid; rw [HB.out, HO.out]; simp [hF, hR, k0, k1]
                  clear HB HO
                  go_wp2_with (first | (go_at_call 34; with_reducible (refine (CV67 _).mono ?_); rintro e w2 ⟨rfl, f2⟩; have F2 := Fr.trans fw f2) | (go_at_call 42; with_reducible (refine (CF67 _).mono ?_); rintro e w' ⟨rfl, rfl⟩) | (go_at_call 42; with_reducible (refine (CR67 _).mono ?_); rintro e w' ⟨rfl, rfl⟩) | (go_at_call 42; with_reducible (refine (CW67 _).mono ?_); rintro e w' ⟨rfl, rfl⟩))
                  go_roundw
                  case rel => exact ⟨3, by omega, by go_num, F2, HY⟩
                  case measure => simp [intOf]
                · have k1' : f.rs ≤ xc := by omega
                  have HN : Hid (insR F mg f p ⟨xop, xa, xb, xc, xk, xla, xlc, xl⟩ = false) := by unfold Hid; rw [HV.out, HB.out, HO.out]; simp [hF, hR, k0, k1]
                  clear HV HB HO
                  go_wp2_with (first | (go_at_call 34; with_reducible (refine (CV67 _).mono ?_); rintro e w2 ⟨rfl, f2⟩; have F2 := Fr.trans fw f2) | (go_at_call 42; with_reducible (refine (CF67 _).mono ?_); rintro e w' ⟨rfl, rfl⟩) | (go_at_call 42; with_reducible (refine (CR67 _).mono ?_); rintro e w' ⟨rfl, rfl⟩) | (go_at_call 42; with_reducible (refine (CW67 _).mono ?_); rintro e w' ⟨rfl, rfl⟩))
                  go_ret
                  exact ⟨by rw [HN.out]; rfl, HGW.out _ F2⟩
              · have k0' : xc < 0 := by omega
                have HN : Hid (insR F mg f p ⟨xop, xa, xb, xc, xk, xla, xlc, xl⟩ = false) := by unfold Hid; rw [HV.out, HB.out, HO.out]; simp [hF, hR, k0]
                clear HV HB HO
                go_wp2_with (first | (go_at_call 34; with_reducible (refine (CV67 _).mono ?_); rintro e w2 ⟨rfl, f2⟩; have F2 := Fr.trans fw f2) | (go_at_call 42; with_reducible (refine (CF67 _).mono ?_); rintro e w' ⟨rfl, rfl⟩) | (go_at_call 42; with_reducible (refine (CR67 _).mono ?_); rintro e w' ⟨rfl, rfl⟩) | (go_at_call 42; with_reducible (refine (CW67 _).mono ?_); rintro e w' ⟨rfl, rfl⟩))
                go_ret
                exact ⟨by rw [HN.out]; rfl, HGW.out _ F2⟩
            | false =>
              rw [hR] at CR67
              cases hW : hasL (wT xop) 67 with
              | true =>
                rw [hW] at CW67
                by_cases k0 : 0 ≤ xc
                · have k0' : ¬ xc < 0 := by omega
                  by_cases k1 : xc < f.rs
                  · have k1' : ¬ f.rs ≤ xc := by omega
                    have HY : Hid (abcR ⟨xop, xa, xb, xc, xk, xla, xlc, xl⟩ f ([65, 66, 67].drop 3) = abcR ⟨xop, xa, xb, xc, xk, xla, xlc, xl⟩ f [65, 66, 67]) := by unfold Hid; rw [HB.out, HO.out]; simp [hF, hR, hW, k0, k1]
                    clear HB HO
                    go_wp2_with (first | (go_at_call 34; with_reducible (refine (CV67 _).mono ?_); rintro e w2 ⟨rfl, f2⟩; have F2 := Fr.trans fw f2) | (go_at_call 42; with_reducible (refine (CF67 _).mono ?_); rintro e w' ⟨rfl, rfl⟩) | (go_at_call 42; with_reducible (refine (CR67 _).mono ?_); rintro e w' ⟨rfl, rfl⟩) | (go_at_call 42; with_reducible (refine (CW67 _).mono ?_); rintro e w' ⟨rfl, rfl⟩))
                    go_roundw
                    case rel => exact ⟨3, by omega, by go_num, F2, HY⟩
                    case measure => simp [intOf]
                  · have k1' : f.rs ≤ xc := by omega
                    have HN : Hid (insR F mg f p ⟨xop, xa, xb, xc, xk, xla, xlc, xl⟩ = false) := by unfold Hid; rw [HV.out, HB.out, HO.out]; simp [hF, hR, hW, k0, k1]
                    clear HV HB HO
                    go_wp2_with (first | (go_at_call 34; with_reducible (refine (CV67 _).mono ?_); rintro e w2 ⟨rfl, f2⟩; have F2 := Fr.trans fw f2) | (go_at_call 42; with_reducible (refine (CF67 _).mono ?_); rintro e w' ⟨rfl, rfl⟩) | (go_at_call 42; with_reducible (refine (CR67 _).mono ?_); rintro e w' ⟨rfl, rfl⟩) | (go_at_call 42; with_reducible (refine (CW67 _).mono ?_); rintro e w' ⟨rfl, rfl⟩))
                    go_ret
                    exact ⟨by rw [HN.out]; rfl, HGW.out _ F2⟩
                · have k0' : xc < 0 := by omega
                  have HN : Hid (insR F mg f p ⟨xop, xa, xb, xc, xk, xla, xlc, xl⟩ = false) := by unfold Hid; rw [HV.out, HB.out, HO.out]; simp [hF, hR, hW, k0]
                  clear HV HB HO
                  go_wp2_with (first | (go_at_call 34; with_reducible (refine (CV67 _).mono ?_); rintro e w2 ⟨rfl, f2⟩; have F2 := Fr.trans fw f2) | (go_at_call 42; with_reducible (refine (CF67 _).mono ?_); rintro e w' ⟨rfl, rfl⟩) | (go_at_call 42; with_reducible (refine (CR67 _).mono ?_); rintro e w' ⟨rfl, rfl⟩) | (go_at_call 42; with_reducible (refine (CW67 _).mono ?_); rintro e w' ⟨rfl, rfl⟩))
                  go_ret
                  exact ⟨by rw [HN.out]; rfl, HGW.out _ F2⟩
              | false =>
                rw [hW] at CW67
                have HY : Hid (abcR ⟨xop, xa, xb, xc, xk, xla, xlc, xl⟩ f ([65, 66, 67].drop 3) = abcR ⟨xop, xa, xb, xc, xk, xla, xlc, xl⟩ f [65, 66, 67]) := by unfold Hid; rw [HB.out, HO.out]; simp [hF, hR, hW]
                clear HB HO
                go_wp2_with (first | (go_at_call 34; with_reducible (refine (CV67 _).mono ?_); rintro e w2 ⟨rfl, f2⟩; have F2 := Fr.trans fw f2) | (go_at_call 42; with_reducible (refine (CF67 _).mono ?_); rintro e w' ⟨rfl, rfl⟩) | (go_at_call 42; with_reducible (refine (CR67 _).mono ?_); rintro e w' ⟨rfl, rfl⟩) | (go_at_call 42; with_reducible (refine (CW67 _).mono ?_); rintro e w' ⟨rfl, rfl⟩))
                go_roundw
                case rel => exact ⟨3, by omega, by go_num, F2, HY⟩
                case measure => simp [intOf]
          | false =>
            rw [hF] at CF67
            by_cases kz : xc = 0
            · subst kz
              cases hR : hasL (rT xop) 67 with
              | true =>
                rw [hR] at CR67
                by_cases k1 : 0 < f.rs
                · have k1' : ¬ f.rs ≤ 0 := by omega
                  have HY : Hid (abcR ⟨xop, xa, xb, 0, xk, xla, xlc, xl⟩ f ([65, 66, 67].drop 3) = abcR ⟨xop, xa, xb, 0, xk, xla, xlc, xl⟩ f [65, 66, 67]) := by unfold Hid; rw [HB.out, HO.out]; simp [hF, hR, k1]
                  clear HB HO
                  go_wp2_with (first | (go_at_call 34; with_reducible (refine (CV67 _).mono ?_); rintro e w2 ⟨rfl, f2⟩; have F2 := Fr.trans fw f2) | (go_at_call 42; with_reducible (refine (CF67 _).mono ?_); rintro e w' ⟨rfl, rfl⟩) | (go_at_call 42; with_reducible (refine (CR67 _).mono ?_); rintro e w' ⟨rfl, rfl⟩) | (go_at_call 42; with_reducible (refine (CW67 _).mono ?_); rintro e w' ⟨rfl, rfl⟩))
                  go_roundw
                  case rel => exact ⟨3, by omega, by go_num, F2, HY⟩
                  case measure => simp [intOf]
                · have k1' : f.rs ≤ 0 := by omega
                  have HN : Hid (insR F mg f p ⟨xop, xa, xb, 0, xk, xla, xlc, xl⟩ = false) := by unfold Hid; rw [HV.out, HB.out, HO.out]; simp [hF, hR, k1]
                  clear HV HB HO
                  go_wp2_with (first | (go_at_call 34; with_reducible (refine (CV67 _).mono ?_); rintro e w2 ⟨rfl, f2⟩; have F2 := Fr.trans fw f2) | (go_at_call 42; with_reducible (refine (CF67 _).mono ?_); rintro e w' ⟨rfl, rfl⟩) | (go_at_call 42; with_reducible (refine (CR67 _).mono ?_); rintro e w' ⟨rfl, rfl⟩) | (go_at_call 42; with_reducible (refine (CW67 _).mono ?_); rintro e w' ⟨rfl, rfl⟩))
                  go_ret
                  exact ⟨by rw [HN.out]; rfl, HGW.out _ F2⟩
              | false =>
                rw [hR] at CR67
                cases hW : hasL (wT xop) 67 with
                | true =>
                  rw [hW] at CW67
                  by_cases k1 : 0 < f.rs
                  · have k1' : ¬ f.rs ≤ 0 := by omega
                    have HY : Hid (abcR ⟨xop, xa, xb, 0, xk, xla, xlc, xl⟩ f ([65, 66, 67].drop 3) = abcR ⟨xop, xa, xb, 0, xk, xla, xlc, xl⟩ f [65, 66, 67]) := by unfold Hid; rw [HB.out, HO.out]; simp [hF, hR, hW, k1]
                    clear HB HO
                    go_wp2_with (first | (go_at_call 34; with_reducible (refine (CV67 _).mono ?_); rintro e w2 ⟨rfl, f2⟩; have F2 := Fr.trans fw f2) | (go_at_call 42; with_reducible (refine (CF67 _).mono ?_); rintro e w' ⟨rfl, rfl⟩) | (go_at_call 42; with_reducible (refine (CR67 _).mono ?_); rintro e w' ⟨rfl, rfl⟩) | (go_at_call 42; with_reducible (refine (CW67 _).mono ?_); rintro e w' ⟨rfl, rfl⟩))
                    go_roundw
                    case rel => exact ⟨3, by omega, by go_num, F2, HY⟩
                    case measure => simp [intOf]
                  · have k1' : f.rs ≤ 0 := by omega
                    have HN : Hid (insR F mg f p ⟨xop, xa, xb, 0, xk, xla, xlc, xl⟩ = false) := by unfold Hid; rw [HV.out, HB.out, HO.out]; simp [hF, hR, hW, k1]
                    clear HV HB HO
                    go_wp2_with (first | (go_at_call 34; with_reducible (refine (CV67 _).mono ?_); rintro e w2 ⟨rfl, f2⟩; have F2 := Fr.trans fw f2) | (go_at_call 42; with_reducible (refine (CF67 _).mono ?_); rintro e w' ⟨rfl, rfl⟩) | (go_at_call 42; with_reducible (refine (CR67 _).mono ?_); rintro e w' ⟨rfl, rfl⟩) | (go_at_call 42; with_reducible (refine (CW67 _).mono ?_); rintro e w' ⟨rfl, rfl⟩))
                    go_ret
                    exact ⟨by rw [HN.out]; rfl, HGW.out _ F2⟩
                | false =>
                  rw [hW] at CW67
                  have HY : Hid (abcR ⟨xop, xa, xb, 0, xk, xla, xlc, xl⟩ f ([65, 66, 67].drop 3) = abcR ⟨xop, xa, xb, 0, xk, xla, xlc, xl⟩ f [65, 66, 67]) := by unfold Hid; rw [HB.out, HO.out]; simp [hF, hR, hW]
                  clear HB HO
                  go_wp2_with (first | (go_at_call 34; with_reducible (refine (CV67 _).mono ?_); rintro e w2 ⟨rfl, f2⟩; have F2 := Fr.trans fw f2) | (go_at_call 42; with_reducible (refine (CF67 _).mono ?_); rintro e w' ⟨rfl, rfl⟩) | (go_at_call 42; with_reducible (refine (CR67 _).mono ?_); rintro e w' ⟨rfl, rfl⟩) | (go_at_call 42; with_reducible (refine (CW67 _).mono ?_); rintro e w' ⟨rfl, rfl⟩))
                  go_roundw
                  case rel => exact ⟨3, by omega, by go_num, F2, HY⟩
                  case measure => simp [intOf]
            · have kz' : (xc != 0) = true := by simpa using kz
              have HN : Hid (insR F mg f p ⟨xop, xa, xb, xc, xk, xla, xlc, xl⟩ = false) := by unfold Hid; rw [HV.out, HB.out, HO.out]; simp [hF, kz]
              clear HV HB HO
              go_wp2_with (first | (go_at_call 34; with_reducible (refine (CV67 _).mono ?_); rintro e w2 ⟨rfl, f2⟩; have F2 := Fr.trans fw f2) | (go_at_call 42; with_reducible (refine (CF67 _).mono ?_); rintro e w' ⟨rfl, rfl⟩) | (go_at_call 42; with_reducible (refine (CR67 _).mono ?_); rintro e w' ⟨rfl, rfl⟩) | (go_at_call 42; with_reducible (refine (CW67 _).mono ?_); rintro e w' ⟨rfl, rfl⟩))
              go_ret
              exact ⟨by rw [HN.out]; rfl, HGW.out _ F2⟩
      · obtain rfl : q = 3 := by omega
        have HV1 : Hid (insR F mg f p ⟨xop, xa, xb, xc, xk, xla, xlc, xl⟩ = ((hasL (rfT xop) 75 || xk == 0) && ((hasL (rfT xop) 76 || decide (xl.length = 0)) && (listR f xl && (lastR f p ⟨xop, xa, xb, xc, xk, xla, xlc, xl⟩ && numR F mg f p ⟨xop, xa, xb, xc, xk, xla, xlc, xl⟩))))) := by unfold Hid; rw [HV.out, ← he.out]; rfl
        clear HV he hq hlt
        clear CF65 CF66 CF67 CR65 CR66 CR67 CW65 CW66 CW67 CV65 CV66 CV67 ch0 ch1 ch2 x1 x2 x3
        cases hK : hasL (rfT xop) 75 with
        | true =>
          rw [hK] at CF75
          cases hL : hasL (rfT xop) 76 with
          | true =>
            rw [hL] at CF76
            have HV2 : Hid (insR F mg f p ⟨xop, xa, xb, xc, xk, xla, xlc, xl⟩ = (listR f xl && (lastR f p ⟨xop, xa, xb, xc, xk, xla, xlc, xl⟩ && numR F mg f p ⟨xop, xa, xb, xc, xk, xla, xlc, xl⟩))) := by unfold Hid; rw [HV1.out]; simp [hK, hL]
            clear HV1
            go_wp2_with (first | (go_at_call 42; with_reducible (refine (CF75 _).mono ?_); rintro e w' ⟨rfl, rfl⟩) | (go_at_call 42; with_reducible (refine (CF76 _).mono ?_); rintro e w' ⟨rfl, rfl⟩))
            clear CF75 CF76
            go_loopw [16, 89] (fun _ ix wq => ∃ q : Nat, q ≤ xl.length ∧ ix = .int .i64 q ∧ Fr [] W1 wq ∧ Hid (listR f (xl.drop q) = listR f xl)) (fun _ ix _ => xl.length - (intOf ix).toNat)
            case atStart => exact ⟨0, Nat.zero_le _, rfl, fw, rfl⟩
            case round =>
              obtain ⟨q, hq, rfl, fq, he⟩ := hrel
              by_cases hlt : q < xl.length
              · have hqI : (q : Int) < xl.length := by omega
                have hz : xl[q]? = some xl[q] := List.getElem?_eq_getElem hlt
                have HB : Hid (listR f (xl.drop q) = ((decide (0 ≤ xl[q]) && decide (xl[q] < f.rs)) && listR f (xl.drop (q + 1)))) := by unfold Hid listR; rw [List.drop_eq_getElem_cons hlt]; rfl
                generalize xl[q] = z at *
                obtain ⟨zb, zo, hza, _, zc⟩ := HKA.out _ fq q z hz
                subst hza
                clear hz
                by_cases k0 : 0 ≤ z
                · have k0' : ¬ z < 0 := by omega
                  by_cases k1 : z < f.rs
                  · have k1' : ¬ f.rs ≤ z := by omega
                    have HY : Hid (listR f (xl.drop (q + 1)) = listR f xl) := by unfold Hid; rw [← he.out, HB.out]; simp [k0, k1]
                    clear HB he HV2
                    go_wp2
                    go_roundw
                    case rel => exact ⟨q + 1, hlt, by go_num, fq, HY⟩
                    case measure => simp [intOf]; omega
                  · have k1' : f.rs ≤ z := by omega
                    have HN : Hid (insR F mg f p ⟨xop, xa, xb, xc, xk, (some ⟨zb, zo, none⟩), xlc, xl⟩ = false) := by unfold Hid; rw [HV2.out, ← he.out, HB.out]; simp [k0, k1]
                    clear HB HV2 he
                    go_wp2
                    go_ret
                    exact ⟨by rw [HN.out]; rfl, HGW.out _ fq⟩
                · have k0' : z < 0 := by omega
                  have HN : Hid (insR F mg f p ⟨xop, xa, xb, xc, xk, (some ⟨zb, zo, none⟩), xlc, xl⟩ = false) := by unfold Hid; rw [HV2.out, ← he.out, HB.out]; simp [k0]
                  clear HB HV2 he
                  go_wp2
                  go_ret
                  exact ⟨by rw [HN.out]; rfl, HGW.out _ fq⟩
              · have hqI : ¬ (q : Int) < xl.length := by omega
                have HV3 : Hid (insR F mg f p ⟨xop, xa, xb, xc, xk, xla, xlc, xl⟩ = (lastR f p ⟨xop, xa, xb, xc, xk, xla, xlc, xl⟩ && numR F mg f p ⟨xop, xa, xb, xc, xk, xla, xlc, xl⟩)) := by unfold Hid; rw [HV2.out, ← he.out, List.drop_eq_nil_iff.2 (by omega)]; rfl
                clear he HV2 hlt
                by_cases ke : (p : Int) = (f.code.length : Int) - 1
                · have ke' : ((p : Int) == (f.code.length : Int) - 1) = true := by simpa using ke
                  by_cases k21 : xop = 21
                  · subst k21
                    have HKE := hid_ ke
                    clear ke
                    have HN : Hid (insR F mg f p ⟨21, xa, xb, xc, xk, xla, xlc, xl⟩ = numR F mg f p ⟨21, xa, xb, xc, xk, xla, xlc, xl⟩) := by unfold Hid; rw [HV3.out]; unfold lastR; simp only [ke']; first | rfl | simp
                    have C43 := H43.out _ fq
                    generalize numR F mg f p ⟨21, xa, xb, xc, xk, xla, xlc, xl⟩ = nr at *
                    clear HV3 H43
                    go_wp2_with (go_at_call 43; with_reducible (refine C43.mono ?_); rintro e w9 ⟨rfl, f9⟩)
                    go_ret
                    exact ⟨by rw [HN.out]; rfl, HGW.out _ (fq.trans f9)⟩
                  · have k21' : (xop != 21) = true := by simpa using k21
                    by_cases k24 : xop = 24
                    · subst k24
                      have HKE := hid_ ke
                      clear ke
                      have HN : Hid (insR F mg f p ⟨24, xa, xb, xc, xk, xla, xlc, xl⟩ = numR F mg f p ⟨24, xa, xb, xc, xk, xla, xlc, xl⟩) := by unfold Hid; rw [HV3.out]; unfold lastR; simp only [ke']; first | rfl | simp
                      have C43 := H43.out _ fq
                      generalize numR F mg f p ⟨24, xa, xb, xc, xk, xla, xlc, xl⟩ = nr at *
                      clear HV3 H43
                      go_wp2_with (go_at_call 43; with_reducible (refine C43.mono ?_); rintro e w9 ⟨rfl, f9⟩)
                      go_ret
                      exact ⟨by rw [HN.out]; rfl, HGW.out _ (fq.trans f9)⟩
                    · have k24' : (xop != 24) = true := by simpa using k24
                      by_cases k25 : xop = 25
                      · subst k25
                        have HKE := hid_ ke
                        clear ke
                        have HN : Hid (insR F mg f p ⟨25, xa, xb, xc, xk, xla, xlc, xl⟩ = numR F mg f p ⟨25, xa, xb, xc, xk, xla, xlc, xl⟩) := by unfold Hid; rw [HV3.out]; unfold lastR; simp only [ke']; first | rfl | simp
                        have C43 := H43.out _ fq
                        generalize numR F mg f p ⟨25, xa, xb, xc, xk, xla, xlc, xl⟩ = nr at *
                        clear HV3 H43
                        go_wp2_with (go_at_call 43; with_reducible (refine C43.mono ?_); rintro e w9 ⟨rfl, f9⟩)
                        go_ret
                        exact ⟨by rw [HN.out]; rfl, HGW.out _ (fq.trans f9)⟩
                      · have k25' : (xop != 25) = true := by simpa using k25
                        clear ke k21 k24 k25
                        have HN : Hid (insR F mg f p ⟨xop, xa, xb, xc, xk, xla, xlc, xl⟩ = false) := by unfold Hid; rw [HV3.out]; unfold lastR; simp only [ke', k21', k24', k25']; rfl
                        clear HV3
                        go_wp2
                        go_ret
                        exact ⟨by rw [HN.out]; rfl, HGW.out _ fq⟩
                · have ke' : ((p : Int) == (f.code.length : Int) - 1) = false := beq_int_false ke
                  have HN : Hid (insR F mg f p ⟨xop, xa, xb, xc, xk, xla, xlc, xl⟩ = numR F mg f p ⟨xop, xa, xb, xc, xk, xla, xlc, xl⟩) := by unfold Hid; rw [HV3.out]; unfold lastR; simp only [ke']; first | rfl | simp
                  have C43 := H43.out _ fq
                  generalize numR F mg f p ⟨xop, xa, xb, xc, xk, xla, xlc, xl⟩ = nr at *
                  clear HV3 H43
                  go_wp2_with (go_at_call 43; with_reducible (refine C43.mono ?_); rintro e w9 ⟨rfl, f9⟩)
                  go_ret
                  exact ⟨by rw [HN.out]; rfl, HGW.out _ (fq.trans f9)⟩
          | false =>
            rw [hL] at CF76
            by_cases kl : xl.length = 0
            · have kl' : ¬ 0 < xl.length := by omega
              have HV2 : Hid (insR F mg f p ⟨xop, xa, xb, xc, xk, xla, xlc, xl⟩ = (listR f xl && (lastR f p ⟨xop, xa, xb, xc, xk, xla, xlc, xl⟩ && numR F mg f p ⟨xop, xa, xb, xc, xk, xla, xlc, xl⟩))) := by unfold Hid; rw [HV1.out]; simp [hK, hL, kl]
              clear HV1 kl
              go_wp2_with (first | (go_at_call 42; with_reducible (refine (CF75 _).mono ?_); rintro e w' ⟨rfl, rfl⟩) | (go_at_call 42; with_reducible (refine (CF76 _).mono ?_); rintro e w' ⟨rfl, rfl⟩))
              clear CF75 CF76
              go_loopw [16, 89] (fun _ ix wq => ∃ q : Nat, q ≤ xl.length ∧ ix = .int .i64 q ∧ Fr [] W1 wq ∧ Hid (listR f (xl.drop q) = listR f xl)) (fun _ ix _ => xl.length - (intOf ix).toNat)
              case atStart => exact ⟨0, Nat.zero_le _, rfl, fw, rfl⟩
              case round =>
                obtain ⟨q, hq, rfl, fq, he⟩ := hrel
                by_cases hlt : q < xl.length
                · have hqI : (q : Int) < xl.length := by omega
                  exact absurd hlt (by omega)
                · have hqI : ¬ (q : Int) < xl.length := by omega
                  have HV3 : Hid (insR F mg f p ⟨xop, xa, xb, xc, xk, xla, xlc, xl⟩ = (lastR f p ⟨xop, xa, xb, xc, xk, xla, xlc, xl⟩ && numR F mg f p ⟨xop, xa, xb, xc, xk, xla, xlc, xl⟩)) := by unfold Hid; rw [HV2.out, ← he.out, List.drop_eq_nil_iff.2 (by omega)]; rfl
                  clear he HV2 hlt
                  by_cases ke : (p : Int) = (f.code.length : Int) - 1
                  · have ke' : ((p : Int) == (f.code.length : Int) - 1) = true := by simpa using ke
                    by_cases k21 : xop = 21
                    · subst k21
                      have HKE := hid_ ke
                      clear ke
                      have HN : Hid (insR F mg f p ⟨21, xa, xb, xc, xk, xla, xlc, xl⟩ = numR F mg f p ⟨21, xa, xb, xc, xk, xla, xlc, xl⟩) := by unfold Hid; rw [HV3.out]; unfold lastR; simp only [ke']; first | rfl | simp
                      have C43 := H43.out _ fq
                      generalize numR F mg f p ⟨21, xa, xb, xc, xk, xla, xlc, xl⟩ = nr at *
                      clear HV3 H43
                      go_wp2_with (go_at_call 43; with_reducible (refine C43.mono ?_); rintro e w9 ⟨rfl, f9⟩)
                      go_ret
                      exact ⟨by rw [HN.out]; rfl, HGW.out _ (fq.trans f9)⟩
                    · have k21' : (xop != 21) = true := by simpa using k21
                      by_cases k24 : xop = 24
                      · subst k24
                        have HKE := hid_ ke
                        clear ke
                        have HN : Hid (insR F mg f p ⟨24, xa, xb, xc, xk, xla, xlc, xl⟩ = numR F mg f p ⟨24, xa, xb, xc, xk, xla, xlc, xl⟩) := by unfold Hid; rw [HV3.out]; unfold lastR; simp only [ke']; first | rfl | simp
                        have C43 := H43.out _ fq
                        generalize numR F mg f p ⟨24, xa, xb, xc, xk, xla, xlc, xl⟩ = nr at *
                        clear HV3 H43
                        go_wp2_with (go_at_call 43; with_reducible (refine C43.mono ?_); rintro e w9 ⟨rfl, f9⟩)
                        go_ret
                        exact ⟨by rw [HN.out]; rfl, HGW.out _ (fq.trans f9)⟩
                      · have k24' : (xop != 24) = true := by simpa using k24
                        by_cases k25 : xop = 25
                        · subst k25
                          have HKE := hid_ ke
                          clear ke
                          have HN : Hid (insR F mg f p ⟨25, xa, xb, xc, xk, xla, xlc, xl⟩ = numR F mg f p ⟨25, xa, xb, xc, xk, xla, xlc, xl⟩) := by unfold Hid; rw [HV3.out]; unfold lastR; simp only [ke']; first | rfl | simp
                          have C43 := H43.out _ fq
                          generalize numR F mg f p ⟨25, xa, xb, xc, xk, xla, xlc, xl⟩ = nr at *
                          clear HV3 H43
                          go_wp2_with (go_at_call 43; with_reducible (refine C43.mono ?_); rintro e w9 ⟨rfl, f9⟩)
                          go_ret
                          exact ⟨by rw [HN.out]; rfl, HGW.out _ (fq.trans f9)⟩
                        · have k25' : (xop != 25) = true := by simpa using k25
                          clear ke k21 k24 k25
                          have HN : Hid (insR F mg f p ⟨xop, xa, xb, xc, xk, xla, xlc, xl⟩ = false) := by unfold Hid; rw [HV3.out]; unfold lastR; simp only [ke', k21', k24', k25']; rfl
                          clear HV3
                          go_wp2
                          go_ret
                          exact ⟨by rw [HN.out]; rfl, HGW.out _ fq⟩
                  · have ke' : ((p : Int) == (f.code.length : Int) - 1) = false := beq_int_false ke
                    have HN : Hid (insR F mg f p ⟨xop, xa, xb, xc, xk, xla, xlc, xl⟩ = numR F mg f p ⟨xop, xa, xb, xc, xk, xla, xlc, xl⟩) := by unfold Hid; rw [HV3.out]; unfold lastR; simp only [ke']; first | rfl | simp
                    have C43 := H43.out _ fq
                    generalize numR F mg f p ⟨xop, xa, xb, xc, xk, xla, xlc, xl⟩ = nr at *
                    clear HV3 H43
                    go_wp2_with (go_at_call 43; with_reducible (refine C43.mono ?_); rintro e w9 ⟨rfl, f9⟩)
                    go_ret
                    exact ⟨by rw [HN.out]; rfl, HGW.out _ (fq.trans f9)⟩
            · have kl' : 0 < xl.length := by omega
              have HN : Hid (insR F mg f p ⟨xop, xa, xb, xc, xk, xla, xlc, xl⟩ = false) := by unfold Hid; rw [HV1.out]; simp [hK, hL, kl]
              clear HV1
              go_wp2_with (first | (go_at_call 42; with_reducible (refine (CF75 _).mono ?_); rintro e w' ⟨rfl, rfl⟩) | (go_at_call 42; with_reducible (refine (CF76 _).mono ?_); rintro e w' ⟨rfl, rfl⟩))
              go_ret
              exact ⟨by rw [HN.out]; rfl, HGW.out _ fw⟩
        | false =>
          rw [hK] at CF75
          by_cases kz : xk = 0
          · subst kz
            cases hL : hasL (rfT xop) 76 with
            | true =>
              rw [hL] at CF76
              have HV2 : Hid (insR F mg f p ⟨xop, xa, xb, xc, 0, xla, xlc, xl⟩ = (listR f xl && (lastR f p ⟨xop, xa, xb, xc, 0, xla, xlc, xl⟩ && numR F mg f p ⟨xop, xa, xb, xc, 0, xla, xlc, xl⟩))) := by unfold Hid; rw [HV1.out]; simp [hK, hL]
              clear HV1
              go_wp2_with (first | (go_at_call 42; with_reducible (refine (CF75 _).mono ?_); rintro e w' ⟨rfl, rfl⟩) | (go_at_call 42; with_reducible (refine (CF76 _).mono ?_); rintro e w' ⟨rfl, rfl⟩))
              clear CF75 CF76
              go_loopw [16, 89] (fun _ ix wq => ∃ q : Nat, q ≤ xl.length ∧ ix = .int .i64 q ∧ Fr [] W1 wq ∧ Hid (listR f (xl.drop q) = listR f xl)) (fun _ ix _ => xl.length - (intOf ix).toNat)
              case atStart => exact ⟨0, Nat.zero_le _, rfl, fw, rfl⟩
              case round =>
                obtain ⟨q, hq, rfl, fq, he⟩ := hrel
                by_cases hlt : q < xl.length
                · have hqI : (q : Int) < xl.length := by omega
                  have hz : xl[q]? = some xl[q] := List.getElem?_eq_getElem hlt
                  have HB : Hid (listR f (xl.drop q) = ((decide (0 ≤ xl[q]) && decide (xl[q] < f.rs)) && listR f (xl.drop (q + 1)))) := by unfold Hid listR; rw [List.drop_eq_getElem_cons hlt]; rfl
                  generalize xl[q] = z at *
                  obtain ⟨zb, zo, hza, _, zc⟩ := HKA.out _ fq q z hz
                  subst hza
                  clear hz
                  by_cases k0 : 0 ≤ z
                  · have k0' : ¬ z < 0 := by omega
                    by_cases k1 : z < f.rs
                    · have k1' : ¬ f.rs ≤ z := by omega
                      have HY : Hid (listR f (xl.drop (q + 1)) = listR f xl) := by unfold Hid; rw [← he.out, HB.out]; simp [k0, k1]
                      clear HB he HV2
                      go_wp2
                      go_roundw
                      case rel => exact ⟨q + 1, hlt, by go_num, fq, HY⟩
                      case measure => simp [intOf]; omega
                    · have k1' : f.rs ≤ z := by omega
                      have HN : Hid (insR F mg f p ⟨xop, xa, xb, xc, 0, (some ⟨zb, zo, none⟩), xlc, xl⟩ = false) := by unfold Hid; rw [HV2.out, ← he.out, HB.out]; simp [k0, k1]
                      clear HB HV2 he
                      go_wp2
                      go_ret
                      exact ⟨by rw [HN.out]; rfl, HGW.out _ fq⟩
                  · have k0' : z < 0 := by omega
                    have HN : Hid (insR F mg f p ⟨xop, xa, xb, xc, 0, (some ⟨zb, zo, none⟩), xlc, xl⟩ = false) := by unfold Hid; rw [HV2.out, ← he.out, HB.out]; simp [k0]
                    clear HB HV2 he
                    go_wp2
                    go_ret
                    exact ⟨by rw [HN.out]; rfl, HGW.out _ fq⟩
                · have hqI : ¬ (q : Int) < xl.length := by omega
                  have HV3 : Hid (insR F mg f p ⟨xop, xa, xb, xc, 0, xla, xlc, xl⟩ = (lastR f p ⟨xop, xa, xb, xc, 0, xla, xlc, xl⟩ && numR F mg f p ⟨xop, xa, xb, xc, 0, xla, xlc, xl⟩)) := by unfold Hid; rw [HV2.out, ← he.out, List.drop_eq_nil_iff.2 (by omega)]; rfl
                  clear he HV2 hlt
                  by_cases ke : (p : Int) = (f.code.length : Int) - 1
                  · have ke' : ((p : Int) == (f.code.length : Int) - 1) = true := by simpa using ke
                    by_cases k21 : xop = 21
                    · subst k21
                      have HKE := hid_ ke
                      clear ke
                      have HN : Hid (insR F mg f p ⟨21, xa, xb, xc, 0, xla, xlc, xl⟩ = numR F mg f p ⟨21, xa, xb, xc, 0, xla, xlc, xl⟩) := by unfold Hid; rw [HV3.out]; unfold lastR; simp only [ke']; first | rfl | simp
                      have C43 := H43.out _ fq
                      generalize numR F mg f p ⟨21, xa, xb, xc, 0, xla, xlc, xl⟩ = nr at *
                      clear HV3 H43
                      go_wp2_with (go_at_call 43; with_reducible (refine C43.mono ?_); rintro e w9 ⟨rfl, f9⟩)
                      go_ret
                      exact ⟨by rw [HN.out]; rfl, HGW.out _ (fq.trans f9)⟩
                    · have k21' : (xop != 21) = true := by simpa using k21
                      by_cases k24 : xop = 24
                      · subst k24
                        have HKE := hid_ ke
                        clear ke
                        have HN : Hid (insR F mg f p ⟨24, xa, xb, xc, 0, xla, xlc, xl⟩ = numR F mg f p ⟨24, xa, xb, xc, 0, xla, xlc, xl⟩) := by unfold Hid; rw [HV3.out]; unfold lastR; simp only [ke']; first | rfl | simp
                        have C43 := H43.out _ fq
                        generalize numR F mg f p ⟨24, xa, xb, xc, 0, xla, xlc, xl⟩ = nr at *
                        clear HV3 H43
                        go_wp2_with (go_at_call 43; with_reducible (refine C43.mono ?_); rintro e w9 ⟨rfl, f9⟩)
                        go_ret
                        exact ⟨by rw [HN.out]; rfl, HGW.out _ (fq.trans f9)⟩
                      · have k24' : (xop != 24) = true := by simpa using k24
                        by_cases k25 : xop = 25
                        · subst k25
                          have HKE := hid_ ke
                          clear ke
                          have HN : Hid (insR F mg f p ⟨25, xa, xb, xc, 0, xla, xlc, xl⟩ = numR F mg f p ⟨25, xa, xb, xc, 0, xla, xlc, xl⟩) := by unfold Hid; rw [HV3.out]; unfold lastR; simp only [ke']; first | rfl | simp
                          have C43 := H43.out _ fq
                          generalize numR F mg f p ⟨25, xa, xb, xc, 0, xla, xlc, xl⟩ = nr at *
                          clear HV3 H43
                          go_wp2_with (go_at_call 43; with_reducible (refine C43.mono ?_); rintro e w9 ⟨rfl, f9⟩)
                          go_ret
                          exact ⟨by rw [HN.out]; rfl, HGW.out _ (fq.trans f9)⟩
                        · have k25' : (xop != 25) = true := by simpa using k25
                          clear ke k21 k24 k25
                          have HN : Hid (insR F mg f p ⟨xop, xa, xb, xc, 0, xla, xlc, xl⟩ = false) := by unfold Hid; rw [HV3.out]; unfold lastR; simp only [ke', k21', k24', k25']; rfl
                          clear HV3
                          go_wp2
                          go_ret
                          exact ⟨by rw [HN.out]; rfl, HGW.out _ fq⟩
                  · have ke' : ((p : Int) == (f.code.length : Int) - 1) = false := beq_int_false ke
                    have HN : Hid (insR F mg f p ⟨xop, xa, xb, xc, 0, xla, xlc, xl⟩ = numR F mg f p ⟨xop, xa, xb, xc, 0, xla, xlc, xl⟩) := by unfold Hid; rw [HV3.out]; unfold lastR; simp only [ke']; first | rfl | simp
                    have C43 := H43.out _ fq
                    generalize numR F mg f p ⟨xop, xa, xb, xc, 0, xla, xlc, xl⟩ = nr at *
                    clear HV3 H43
                    go_wp2_with (go_at_call 43; with_reducible (refine C43.mono ?_); rintro e w9 ⟨rfl, f9⟩)
                    go_ret
                    exact ⟨by rw [HN.out]; rfl, HGW.out _ (fq.trans f9)⟩
            | false =>
              rw [hL] at CF76
              by_cases kl : xl.length = 0
              · have kl' : ¬ 0 < xl.length := by omega
                have HV2 : Hid (insR F mg f p ⟨xop, xa, xb, xc, 0, xla, xlc, xl⟩ = (listR f xl && (lastR f p ⟨xop, xa, xb, xc, 0, xla, xlc, xl⟩ && numR F mg f p ⟨xop, xa, xb, xc, 0, xla, xlc, xl⟩))) := by unfold Hid; rw [HV1.out]; simp [hK, hL, kl]
                clear HV1 kl
                go_wp2_with (first | (go_at_call 42; with_reducible (refine (CF75 _).mono ?_); rintro e w' ⟨rfl, rfl⟩) | (go_at_call 42; with_reducible (refine (CF76 _).mono ?_); rintro e w' ⟨rfl, rfl⟩))
                clear CF75 CF76
                go_loopw [16, 89] (fun _ ix wq => ∃ q : Nat, q ≤ xl.length ∧ ix = .int .i64 q ∧ Fr [] W1 wq ∧ Hid (listR f (xl.drop q) = listR f xl)) (fun _ ix _ => xl.length - (intOf ix).toNat)
                case atStart => exact ⟨0, Nat.zero_le _, rfl, fw, rfl⟩
                case round =>
                  obtain ⟨q, hq, rfl, fq, he⟩ := hrel
                  by_cases hlt : q < xl.length
                  · have hqI : (q : Int) < xl.length := by omega
                    exact absurd hlt (by omega)
                  · have hqI : ¬ (q : Int) < xl.length := by omega
                    have HV3 : Hid (insR F mg f p ⟨xop, xa, xb, xc, 0, xla, xlc, xl⟩ = (lastR f p ⟨xop, xa, xb, xc, 0, xla, xlc, xl⟩ && numR F mg f p ⟨xop, xa, xb, xc, 0, xla, xlc, xl⟩)) := by unfold Hid; rw [HV2.out, ← he.out, List.drop_eq_nil_iff.2 (by omega)]; rfl
                    clear he HV2 hlt
                    by_cases ke : (p : Int) = (f.code.length : Int) - 1
                    · have ke' : ((p : Int) == (f.code.length : Int) - 1) = true := by simpa using ke
                      by_cases k21 : xop = 21
                      · subst k21
                        have HKE := hid_ ke
                        clear ke
                        have HN : Hid (insR F mg f p ⟨21, xa, xb, xc, 0, xla, xlc, xl⟩ = numR F mg f p ⟨21, xa, xb, xc, 0, xla, xlc, xl⟩) := by unfold Hid; rw [HV3.out]; unfold lastR; simp only [ke']; first | rfl | simp
                        have C43 := H43.out _ fq
                        generalize numR F mg f p ⟨21, xa, xb, xc, 0, xla, xlc, xl⟩ = nr at *
                        clear HV3 H43
                        go_wp2_with (go_at_call 43; with_reducible (refine C43.mono ?_); rintro e w9 ⟨rfl, f9⟩)
                        go_ret
                        exact ⟨by rw [HN.out]; rfl, HGW.out _ (fq.trans f9)⟩
                      · have k21' : (xop != 21) = true := by simpa using k21
                        by_cases k24 : xop = 24
                        · subst k24
                          have HKE := hid_ ke
                          clear ke
                          have HN : Hid (insR F mg f p ⟨24, xa, xb, xc, 0, xla, xlc, xl⟩ = numR F mg f p ⟨24, xa, xb, xc, 0, xla, xlc, xl⟩) := by unfold Hid; rw [HV3.out]; unfold lastR; simp only [ke']; first | rfl | simp
                          have C43 := H43.out _ fq
                          generalize numR F mg f p ⟨24, xa, xb, xc, 0, xla, xlc, xl⟩ = nr at *
                          clear HV3 H43
                          go_wp2_with (go_at_call 43; with_reducible (refine C43.mono ?_); rintro e w9 ⟨rfl, f9⟩)
                          go_ret
                          exact ⟨by rw [HN.out]; rfl, HGW.out _ (fq.trans f9)⟩
                        · have k24' : (xop != 24) = true := by simpa using k24
                          by_cases k25 : xop = 25
                          · subst k25
                            have HKE := hid_ ke
                            clear ke
                            have HN : Hid (insR F mg f p ⟨25, xa, xb, xc, 0, xla, xlc, xl⟩ = numR F mg f p ⟨25, xa, xb, xc, 0, xla, xlc, xl⟩) := by unfold Hid; rw [HV3.out]; unfold lastR; simp only [ke']; first | rfl | simp
                            have C43 := H43.out _ fq
                            generalize numR F mg f p ⟨25, xa, xb, xc, 0, xla, xlc, xl⟩ = nr at *
                            clear HV3 H43
                            go_wp2_with (go_at_call 43; with_reducible (refine C43.mono ?_); rintro e w9 ⟨rfl, f9⟩)
                            go_ret
                            exact ⟨by rw [HN.out]; rfl, HGW.out _ (fq.trans f9)⟩
                          · have k25' : (xop != 25) = true := by simpa using k25
                            clear ke k21 k24 k25
                            have HN : Hid (insR F mg f p ⟨xop, xa, xb, xc, 0, xla, xlc, xl⟩ = false) := by unfold Hid; rw [HV3.out]; unfold lastR; simp only [ke', k21', k24', k25']; rfl
                            clear HV3
                            go_wp2
                            go_ret
                            exact ⟨by rw [HN.out]; rfl, HGW.out _ fq⟩
                    · have ke' : ((p : Int) == (f.code.length : Int) - 1) = false := beq_int_false ke
                      have HN : Hid (insR F mg f p ⟨xop, xa, xb, xc, 0, xla, xlc, xl⟩ = numR F mg f p ⟨xop, xa, xb, xc, 0, xla, xlc, xl⟩) := by unfold Hid; rw [HV3.out]; unfold lastR; simp only [ke']; first | rfl | simp
                      have C43 := H43.out _ fq
                      generalize numR F mg f p ⟨xop, xa, xb, xc, 0, xla, xlc, xl⟩ = nr at *
                      clear HV3 H43
                      go_wp2_with (go_at_call 43; with_reducible (refine C43.mono ?_); rintro e w9 ⟨rfl, f9⟩)
                      go_ret
                      exact ⟨by rw [HN.out]; rfl, HGW.out _ (fq.trans f9)⟩
              · have kl' : 0 < xl.length := by omega
                have HN : Hid (insR F mg f p ⟨xop, xa, xb, xc, 0, xla, xlc, xl⟩ = false) := by unfold Hid; rw [HV1.out]; simp [hK, hL, kl]
                clear HV1
                go_wp2_with (first | (go_at_call 42; with_reducible (refine (CF75 _).mono ?_); rintro e w' ⟨rfl, rfl⟩) | (go_at_call 42; with_reducible (refine (CF76 _).mono ?_); rintro e w' ⟨rfl, rfl⟩))
                go_ret
                exact ⟨by rw [HN.out]; rfl, HGW.out _ fw⟩
          · have kz' : (xk != 0) = true := by simpa using kz
            have HN : Hid (insR F mg f p ⟨xop, xa, xb, xc, xk, xla, xlc, xl⟩ = false) := by unfold Hid; rw [HV1.out]; simp [hK, kz]
            clear HV1
            go_wp2_with (first | (go_at_call 42; with_reducible (refine (CF75 _).mono ?_); rintro e w' ⟨rfl, rfl⟩) | (go_at_call 42; with_reducible (refine (CF76 _).mono ?_); rintro e w' ⟨rfl, rfl⟩))
            go_ret
            exact ⟨by rw [HN.out]; rfl, HGW.out _ fw⟩
end Go.Proofs.YtdaealionicmjaaDoor
