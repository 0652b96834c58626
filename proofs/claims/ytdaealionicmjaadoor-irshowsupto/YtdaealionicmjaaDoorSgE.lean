/-
  A function's code as the document shows it; conditions: the function lies as told, its numbers are numbers, the library's table lies as its text lays it, it is not too much.
-/
import Derived.Test.YtdaealionicmjaaDoorSgD
namespace Go.Proofs.YtdaealionicmjaaDoor
open Go.RowKit
set_option linter.unusedVariables false
set_option linter.unusedSimpArgs false

theorem joinB_succ {l : List Int} {p : Nat} {z : Int} (h : l[p]? = some z) : joinB (l.take (p + 1)) = if p = 0 then Lib.itoa z else joinB (l.take p) ++ [44] ++ Lib.itoa z := by
  cases l with
  | nil => simp at h
  | cons y r =>
    cases p with
    | zero =>
      simp at h
      subst h
      simp [joinB, Lib.join_one]
    | succ p =>
      have h' : r[p]? = some z := by simpa using h
      have h2 : (r.map Lib.itoa)[p]? = some (Lib.itoa z) := by rw [List.getElem?_map, h']; rfl
      have e := Lib.joinTail_take_succ [44] (r.map Lib.itoa) p (Lib.itoa z) h2
      simp only [joinB, List.take_succ_cons, List.map_cons, Lib.join_cons, Nat.succ_ne_zero, if_false, List.map_take, Nat.add_eq_zero_iff, Nat.one_ne_zero, and_false]
      rw [e]
      simp [List.append_assoc]
theorem rf_at : ∀ n, n < 29 → (rfieldsT.getD n []).length = (fieldsT.getD n []).length := by decide
theorem rf_let : ∀ n, n < 29 → ∀ i, i < (fieldsT.getD n []).length → ((rfieldsT.getD n [])[i]?).getD 0 = if ((fieldsT.getD n [])[i]?).getD 0 = 99 then 67 else ((fieldsT.getD n [])[i]?).getD 0 := by decide
theorem rn_at : ∀ n, n < 29 → (rnamesT.getD n [] = if n = 0 then [] else namesT.getD n []) := by decide
theorem nz_at : ∀ n, n < 29 → n ≠ 0 → namesT.getD n [] ≠ [] := by decide

/-- The value of a field as a text. -/
def valL (x : In) (c : Nat) : List UInt8 := if c = 75 then Lib.itoa x.k else if c = 76 then joinB x.l else Lib.itoa (fieldL x c)
theorem fldL_val (x : In) {c : UInt8} (hc : c = 65 ∨ c = 66 ∨ c = 67 ∨ c = 99 ∨ c = 75 ∨ c = 76) : fldL x c.toNat = [32] ++ [if c = 99 then 67 else c] ++ [61] ++ valL x (if c = 99 then (67 : UInt8) else c).toNat := by
  rcases hc with rfl | rfl | rfl | rfl | rfl | rfl <;> simp [fldL, valL, fieldL]

set_option maxRecDepth 100000 in
set_option maxHeartbeats 16000000 in
theorem rshow_any {B0 : Nat} {w : World} {f : Fu} (hf : FuOk B0 w f) (hB : B0 ≤ w.heap.size) (hw : WfFu f) (P : Pw w) (hc : costF f ≤ 1048576) :
    Calls Tryd.prog 13 #[.agg f.arr] w fun e w' => e = .returned (.string (txt (showL f))) ∧ Fr [] w w' := by
  have HLEN := hidS (showL_len hw hc)
  have ecost : costF f = (f.code.map costI).sum + f.name.size + 1 := rfl
  have hcl := costI_len f.code
  have hkl : f.code.length ≤ 1048576 := by omega
  have hkI : (f.code.length : Int) ≤ 1048576 := by omega
  have hnm : f.name.size ≤ 1048576 := by omega
  have HCI : Hid (∀ x, x ∈ f.code → x.l.length ≤ 1048576) := fun x hx => by have := costI_mem hx; omega
  have HWF := hidS hw
  have F1 : Fr [] w (w.alloc (.cells f.arr 34)) := (Fr.refl _ _).alloc _
  have bf := heap_alloc_new w (.cells f.arr 34)
  have HF1 := hidS F1
  have HP := hidS (P.fr F1 (by simp))
  have HFO := hidS (hf.fr F1 (by simp))
  unfold Fu.arr at *
  go_enter Tryd.func13, Tryd.ntmps13
  go_upto_region 1 with fail
  have HBF := hidS bf
  generalize w.alloc (.cells #[.string f.name, .int .i64 f.ps, .int .i64 f.rs, .slice f.ca f.code.length f.cc] 34) = W1 at *
  clear bf F1 hf P ecost hcl hc hw
  have y0 : ∀ w', Fr [] W1 w' → w'.cell? ⟨w.heap.size, 0, none⟩ = some (.string f.name) := fun w' h => h.cell1 (at_cells HBF.out 0 rfl) (by simp)
  have y1 : ∀ w', Fr [] W1 w' → w'.cell? ⟨w.heap.size, 1, none⟩ = some (.int .i64 f.ps) := fun w' h => h.cell1 (at_cells HBF.out 1 rfl) (by simp)
  have y2 : ∀ w', Fr [] W1 w' → w'.cell? ⟨w.heap.size, 2, none⟩ = some (.int .i64 f.rs) := fun w' h => h.cell1 (at_cells HBF.out 2 rfl) (by simp)
  have CP := fun w' (h : Fr [] W1 w') => itoa_any f.ps HWF.out.p w' (HP.out.fr h (by simp))
  have CR := fun w' (h : Fr [] W1 w') => itoa_any f.rs HWF.out.r w' (HP.out.fr h (by simp))
  have hsp : (txt (Lib.itoa f.ps)).size ≤ 21 := by rw [txt_size]; exact itoa_len HWF.out.p
  have hsr : (txt (Lib.itoa f.rs)).size ≤ 21 := by rw [txt_size]; exact itoa_len HWF.out.r
  have HHD : Hid (((((((⟨#[102, 110, 32]⟩ : ByteArray) ++ f.name) ++ ⟨#[32]⟩) ++ txt (Lib.itoa f.ps)) ++ ⟨#[32]⟩) ++ txt (Lib.itoa f.rs)) ++ ⟨#[10]⟩ = txt (headL f)) := by
    unfold Hid headL
    have e : f.name = txt f.name.data.toList := by simp [txt]
    rw [e, lit_txt #[102, 110, 32], lit_txt #[32], lit_txt #[10]]
    simp only [cat_txt, data_txt]
  generalize txt (Lib.itoa f.ps) = SP at *
  generalize txt (Lib.itoa f.rs) = SR at *
  have n1 : ¬ 9223372036854775807 < 3 + f.name.size := by omega
  have n2 : ¬ 9223372036854775807 < 3 + f.name.size + 1 := by omega
  have n3 : ¬ 9223372036854775807 < 3 + f.name.size + 1 + SP.size := by omega
  have n4 : ¬ 9223372036854775807 < 3 + f.name.size + 1 + SP.size + 1 := by omega
  have n5 : ¬ 9223372036854775807 < 3 + f.name.size + 1 + SP.size + 1 + SR.size := by omega
  have n6 : ¬ 9223372036854775807 < 3 + f.name.size + 1 + SP.size + 1 + SR.size + 1 := by omega
  have RF : Fr [] W1 W1 := Fr.refl _ _
  have HD : ∀ w' : World, Fr [] W1 w' → Fr [] W1 w'.drew := fun w' h => h.drew
  go_region_held3 (fun w' : World => Fr [] W1 w')
    (with_reducible (first | assumption | exact HD _ (by assumption)))
    (first
      | (go_at_call 28; with_reducible (refine (CP _ (by assumption)).mono ?_); rintro e w2 ⟨rfl, f2⟩; have F2 : Fr [] W1 w2 := Fr.trans (by assumption) f2)
      | (go_at_call 28; with_reducible (refine (CR _ (by assumption)).mono ?_); rintro e w2 ⟨rfl, f2⟩; have F2 : Fr [] W1 w2 := Fr.trans (by assumption) f2))
  have y3 : w2.cell? ⟨w.heap.size, 3, none⟩ = some (.slice f.ca f.code.length f.cc) := F2.cell1 (at_cells HBF.out 3 rfl) (by simp)
  have HF2 := hidS F2
  have HSH : Hid (showL f = headL f ++ linesL 0 f.code) := rfl
  rw [HHD.out]
  have hhs : (txt (headL f)).size ≤ 200000000 := by
    have h := HLEN.out
    unfold showL at h
    rw [txt_size]
    simp only [List.length_append] at h
    omega
  have HHS : Hid (txt (headL f) = txt (headL f)) := rfl
  clear CP CR y0 y1 y2 HD RF f2 n1 n2 n3 n4 n5 n6 hsp hsr HHD HBF
  generalize headL f = HDL at *
  generalize hSE : showL f = SHL at *
  have HSE := hidS hSE
  clear hSE
  obtain ⟨fnm, fps, frs, fca, fcc, fcode⟩ := f
  simp only at *
  go_wp2
  clear y3
  go_loopw [3, 4, 5, 6, 7, 8, 9, 10, 11, 12, 30] (fun s _ _ _ _ _ _ _ _ _ ix wr => ∃ (k : Nat) (S : ByteArray), k ≤ fcode.length ∧ ix = .int .i64 k ∧ s = .string S ∧ Hid (S = txt (HDL ++ linesL 0 (fcode.take k))) ∧ Fr [] W1 wr) (fun _ _ _ _ _ _ _ _ _ _ ix _ => fcode.length - (intOf ix).toNat)
  case atStart => exact ⟨0, _, Nat.zero_le _, rfl, rfl, by unfold Hid; simp [linesL], HF2.out⟩
  case round =>
    clear HF2 HHS hhs
    obtain ⟨k, S, hk, rfl, rfl, HS, fw⟩ := hrel
    by_cases hlt : k < fcode.length
    · have hkI2 : (k : Int) < fcode.length := by omega
      have hx : fcode[k]? = some fcode[k] := List.getElem?_eq_getElem hlt
      have HTK : Hid (linesL 0 (fcode.take (k + 1)) = linesL 0 (fcode.take k) ++ lineL k fcode[k]) := by
        unfold Hid
        rw [List.take_add_one, hx, linesL_app]
        simp [linesL, Nat.min_eq_left (Nat.le_of_lt hlt)]
      have HLK : Hid ((HDL ++ linesL 0 (fcode.take (k + 1))).length ≤ 200000000) := by
        have h1 := HLEN.out
        rw [HSH.out, ← List.take_append_drop (k + 1) fcode, linesL_app] at h1
        unfold Hid
        simp only [List.length_append] at h1 ⊢
        omega
      have hwx := HWF.out.c fcode[k] (List.getElem_mem _)
      have hxl := HCI.out fcode[k] (List.getElem_mem _)
      generalize fcode[k] = x at *
      obtain ⟨b2, o2, hca, hb2, hI2⟩ := (HFO.out.fr fw (by simp)).k k x hx
      obtain ⟨c0, c1, c2, c3, c4, c5, okx⟩ := hI2
      have HWX := hidS hwx
      subst hca
      have hrl := rowN_lt x.op
      have CROW := fun w' => Calls.mono (rrow_any x.op w') (fun e w'' (h : e = .returned (rowV x.op) ∧ w'' = w') => (⟨h.1, h.2.symm⟩ : e = .returned (rowV x.op) ∧ w' = w''))
      unfold rowV at CROW
      obtain ⟨xop, xa, xb, xc, xk, xla, xlc, xl⟩ := x
      simp only at *
      have g1 : Fr [] wr (wr.alloc (.cells #[.int .i64 xop, .int .i64 xa, .int .i64 xb, .int .i64 xc, .int .i64 xk, .slice xla xl.length xlc] 39)) := (Fr.refl _ _).alloc _
      have bx := heap_alloc_new wr (.cells #[.int .i64 xop, .int .i64 xa, .int .i64 xb, .int .i64 xc, .int .i64 xk, .slice xla xl.length xlc] 39)
      have fw1 := fw.trans g1
      have HKA := hidS (okx.k.fr g1 (by simp))
      have d0 := at_cells bx 0 rfl
      have nb2 : b2 ≠ wr.heap.size := by have := World.block_lt_of_cell? wr _ c0; simp only at this; omega
      have hwk : (Lit.int .i64 (k : Int)).wf = true := by
        have e1 : IntKind.min .i64 = -9223372036854775808 := by decide
        simp [Lit.wf, e1]; omega
      have CN := fun w' (h : Fr [] W1 w') => itoa_any (k : Int) hwk w' (HP.out.fr h (by simp))
      have hsn : (txt (Lib.itoa (k : Int))).size ≤ 21 := by rw [txt_size]; exact itoa_len hwk
      have hSs : S.size ≤ 200000000 := by
        rw [HS.out, txt_size]
        have h1 := HLK.out
        rw [HTK.out] at h1
        simp only [List.length_append] at h1 ⊢
        omega
      have HS1 : Hid (S ++ (txt (Lib.itoa (k : Int)) ++ ⟨#[58, 32]⟩) = txt (HDL ++ linesL 0 (fcode.take k) ++ (Lib.itoa (k : Int) ++ [58, 32]))) := by
        unfold Hid
        rw [HS.out, lit_txt #[58, 32]]
        simp only [cat_txt]
      generalize txt (Lib.itoa (k : Int)) = SN at *
      have n1 : ¬ 9223372036854775807 < SN.size + 2 := by omega
      have n2 : ¬ 9223372036854775807 < S.size + (SN.size + 2) := by omega
      clear hx hwx okx fw g1
      go_upto_region 6 with (go_at_call 28; with_reducible (refine (CN _ fw1).mono ?_); rintro e w5 ⟨rfl, f5⟩)
      clear c0 c1 c2 c3 c4 c5 d0 nb2 n1 n2
      have bx5 := (f5.block _ (Array.getElem?_eq_some_iff.1 bx).1 (by simp)).trans bx
      have HF5 := hidS (fw1.trans f5)
      have HK5 := hidS (HKA.out.fr f5 (by simp))
      generalize wr.heap.size = k5 at *
      clear bx fw1 f5 HKA
      generalize S ++ (SN ++ ⟨#[58, 32]⟩) = T1 at *
      have HBX := hidS bx5
      have d0 := at_cells bx5 0 rfl
      have HLN : Hid (lineL k ⟨xop, xa, xb, xc, xk, xla, xlc, xl⟩ = (Lib.itoa (k : Int) ++ [58, 32]) ++ nT xop ++ fldsL ⟨xop, xa, xb, xc, xk, xla, xlc, xl⟩ (fT xop) ++ [10]) := by unfold Hid lineL; rfl
      have hT1 : T1.size ≤ 200000000 := by
        rw [HS1.out, txt_size]
        have h1 := HLK.out
        rw [HTK.out, HLN.out] at h1
        simp only [List.length_append] at h1 ⊢
        omega
      have hsm : (txt (nT xop)).size ≤ 7 := by rw [txt_size]; exact n_len _ hrl
      cases hn : (txt (rnT xop)).toList.isEmpty with
      | true =>
        have hr0 : rowN xop = 0 := by
          rcases Nat.eq_zero_or_pos (rowN xop) with h | h
          · exact h
          · exfalso
            have h1 := nz_at _ hrl (by omega)
            have h2 := rn_at _ hrl
            rw [if_neg (by omega)] at h2
            rw [Lib.toList_data, txt_list] at hn
            unfold rnT at hn
            rw [h2] at hn
            cases hq : namesT.getD (rowN xop) [] with
            | nil => exact h1 hq
            | cons a r => rw [hq] at hn; cases hn
        have HSN : Hid (T1 ++ ⟨#[63, 10]⟩ = txt (HDL ++ linesL 0 (fcode.take (k + 1)))) := by
          unfold Hid
          rw [HTK.out, HLN.out, HS1.out, lit_txt #[63, 10], cat_txt]
          have e1 : nT xop = [63] := by unfold nT; rw [hr0]; rfl
          have e2 : fT xop = [] := by unfold fT; rw [hr0]; rfl
          rw [e1, e2]
          simp [fldsL, List.append_assoc]
        have n1 : ¬ 9223372036854775807 < T1.size + 2 := by omega
        clear hr0
        go_wp2_with (go_at_call 32; with_reducible (refine (CROW _).mono ?_); rintro e w' ⟨rfl, rfl⟩)
        go_roundw
        case rel => exact ⟨k + 1, _, hlt, by go_num, rfl, HSN, HF5.out⟩
        case measure => simp [intOf]; omega
      | false =>
        have hr1 : rowN xop ≠ 0 := fun h => by
          rw [Lib.toList_data, txt_list] at hn
          unfold rnT at hn
          rw [h] at hn
          cases hn
        have hrn : rnT xop = nT xop := by
          have h2 := rn_at _ hrl
          rw [if_neg hr1] at h2
          exact h2
        have HS2 : Hid (T1 ++ txt (nT xop) = txt ((HDL ++ linesL 0 (fcode.take k)) ++ (Lib.itoa (k : Int) ++ [58, 32] ++ nT xop))) := by
          unfold Hid
          rw [HS1.out, cat_txt]
          simp [List.append_assoc]
        have HEQ : Hid (HDL ++ linesL 0 (fcode.take (k + 1)) = ((HDL ++ linesL 0 (fcode.take k)) ++ (Lib.itoa (k : Int) ++ [58, 32] ++ nT xop)) ++ fldsL ⟨xop, xa, xb, xc, xk, xla, xlc, xl⟩ (fT xop) ++ [10]) := by
          unfold Hid
          rw [HTK.out, HLN.out]
          simp only [List.append_assoc]
        have HLT : Hid ((((HDL ++ linesL 0 (fcode.take k)) ++ (Lib.itoa (k : Int) ++ [58, 32] ++ nT xop)) ++ fldsL ⟨xop, xa, xb, xc, xk, xla, xlc, xl⟩ (fT xop)).length + 1 ≤ 200000000) := by
          have h1 := HLK.out
          rw [HEQ.out] at h1
          unfold Hid
          simp only [List.length_append, List.length_cons, List.length_nil] at h1 ⊢
          omega
        have HRL := hidS (rf_at _ hrl)
        have HRC := hidS (rf_let _ hrl)
        have HAC := hidS (ascii_fl _ hrl)
        rw [hrn] at CROW hn
        have HFD : Hid (fieldsT.getD (rowN xop) [] = fT xop ∧ rfieldsT.getD (rowN xop) [] = rfT xop) := ⟨rfl, rfl⟩
        rw [HFD.out.1, HFD.out.2] at HRL HRC
        rw [HFD.out.1] at HAC
        have n1 : ¬ 9223372036854775807 < T1.size + (txt (nT xop)).size := by omega
        have hfl : (fT xop).length ≤ 4 := f_len _ hrl
        clear hrn hr1
        generalize (HDL ++ linesL 0 (fcode.take k)) ++ (Lib.itoa (k : Int) ++ [58, 32] ++ nT xop) = PRE at *
        generalize txt (nT xop) = NM at *
        generalize fT xop = FT at *
        have HSZ := hidS (txt_size (rfT xop))
        have HIX := hidS (fun i h => index_txt (rfT xop) i h)
        generalize rfT xop = RT at *
        go_wp2_with (go_at_call 32; with_reducible (refine (CROW _).mono ?_); rintro e w' ⟨rfl, rfl⟩)
        have hT2 : (T1 ++ NM).size ≤ 200000000 := by
          rw [HS2.out, txt_size]
          have h1 := HLT.out
          simp only [List.length_append] at h1 ⊢
          omega
        have HW5 := hidS HF5.out
        clear n1 CROW d0
        generalize T1 ++ NM = T2 at *
        go_loopw [3, 10, 11, 12] (fun s i _ _ wq => ∃ (p : Nat) (S : ByteArray), p ≤ FT.length ∧ i = .int .i64 p ∧ s = .string S ∧ Hid (S = txt (PRE ++ fldsL ⟨xop, xa, xb, xc, xk, xla, xlc, xl⟩ (FT.take p))) ∧ Fr [] w5 wq) (fun _ i _ _ _ => FT.length - (intOf i).toNat)
        case atStart => exact ⟨0, T2, Nat.zero_le _, rfl, rfl, by unfold Hid; simpa [fldsL] using HS2.out, Fr.refl _ _⟩
        case round =>
          clear HS2 hT2 HS1 hT1 HS hSs
          obtain ⟨p, S', hp, rfl, rfl, HS, fq⟩ := hrel
          have hrt : RT.length = FT.length := HRL.out
          by_cases hlt2 : p < FT.length
          · have hps : p < (txt RT).size := by rw [HSZ.out, hrt]; exact hlt2
            have hpI : (p : Int) < (txt RT).size := by omega
            have hsI : ((txt RT).size : Int) ≤ 4 := by rw [HSZ.out]; omega
            have hpR : p < RT.length := by omega
            have hSs : S'.size ≤ 200000000 := by
              rw [HS.out, txt_size]
              have h1 := HLT.out
              have h2 : fldsL ⟨xop, xa, xb, xc, xk, xla, xlc, xl⟩ FT = fldsL ⟨xop, xa, xb, xc, xk, xla, xlc, xl⟩ (FT.take p) ++ fldsL ⟨xop, xa, xb, xc, xk, xla, xlc, xl⟩ (FT.drop p) := by unfold fldsL; rw [← List.flatMap_append, List.take_append_drop]
              rw [h2] at h1
              simp only [List.length_append] at h1 ⊢
              omega
            have hex : ((txt RT).extract p (p + 1)).size = 1 := by rw [ByteArray.size_extract]; omega
            have hi := HIX.out p hpR
            clear hrt
            have hi' : (txt RT)[p]'hps = RT[p]'hpR := hi
            have HEX : Hid ((txt RT).extract p (p + 1) = txt [RT[p]'hpR]) := by
              unfold Hid
              apply ByteArray.ext
              rw [ByteArray.data_extract]
              simp [txt]
              rw [List.drop_eq_getElem_cons hpR]
              rfl
            have hfc := HAC.out (FT[p]'hlt2) (List.getElem_mem _)
            have hrc : RT[p]'hpR = if FT[p]'hlt2 = 99 then 67 else FT[p]'hlt2 := by
              have := HRC.out p hlt2
              rw [List.getElem?_eq_getElem hlt2, List.getElem?_eq_getElem hpR] at this
              simpa using this
            have HTK2 : Hid (fldsL ⟨xop, xa, xb, xc, xk, xla, xlc, xl⟩ (FT.take (p + 1)) = fldsL ⟨xop, xa, xb, xc, xk, xla, xlc, xl⟩ (FT.take p) ++ ([32] ++ [RT[p]'hpR] ++ [61]) ++ valL ⟨xop, xa, xb, xc, xk, xla, xlc, xl⟩ (RT[p]'hpR).toNat) := by
              unfold Hid fldsL
              rw [List.take_add_one, List.getElem?_eq_getElem hlt2, List.flatMap_append, hrc]
              simp only [Option.toList_some, List.flatMap_cons, List.flatMap_nil, List.append_nil, fldL_val ⟨xop, xa, xb, xc, xk, xla, xlc, xl⟩ hfc, List.append_assoc]
            have HLP : Hid ((PRE ++ fldsL ⟨xop, xa, xb, xc, xk, xla, xlc, xl⟩ (FT.take (p + 1))).length ≤ 200000000) := by
              have h1 := HLT.out
              have h2 : fldsL ⟨xop, xa, xb, xc, xk, xla, xlc, xl⟩ FT = fldsL ⟨xop, xa, xb, xc, xk, xla, xlc, xl⟩ (FT.take (p + 1)) ++ fldsL ⟨xop, xa, xb, xc, xk, xla, xlc, xl⟩ (FT.drop (p + 1)) := by unfold fldsL; rw [← List.flatMap_append, List.take_append_drop]
              rw [h2] at h1
              unfold Hid
              simp only [List.length_append] at h1 ⊢
              omega
            have HS3 : Hid (S' ++ (⟨#[32]⟩ ++ (txt RT).extract p (p + 1) ++ ⟨#[61]⟩) = txt (PRE ++ fldsL ⟨xop, xa, xb, xc, xk, xla, xlc, xl⟩ (FT.take p) ++ ([32] ++ [RT[p]'hpR] ++ [61]))) := by
              unfold Hid
              rw [HS.out, HEX.out, lit_txt #[32], lit_txt #[61]]
              simp only [cat_txt, List.append_assoc]
            have hlet : (RT[p]'hpR).toNat = 65 ∨ (RT[p]'hpR).toNat = 66 ∨ (RT[p]'hpR).toNat = 67 ∨ (RT[p]'hpR).toNat = 75 ∨ (RT[p]'hpR).toNat = 76 := by
              rw [hrc]
              rcases hfc with e | e | e | e | e | e <;> rw [e] <;> decide
            have hT3 : (S' ++ (⟨#[32]⟩ ++ (txt RT).extract p (p + 1) ++ ⟨#[61]⟩)).size ≤ 200000000 := by
              rw [HS3.out, txt_size]
              have h1 := HLP.out
              rw [HTK2.out] at h1
              simp only [List.length_append] at h1 ⊢
              omega
            clear hfc hrc hi
            go_upto_region 14 with fail
            generalize S' ++ (⟨#[32]⟩ ++ (txt RT).extract p (p + 1) ++ ⟨#[61]⟩) = T3 at *
            clear hex HEX
            generalize hch : (txt RT)[p]'hps = ch at *
            generalize RT[p]'hpR = cc at *
            subst hi'
            have bq := (fq.block _ (Array.getElem?_eq_some_iff.1 HBX.out).1 (by simp)).trans HBX.out
            have q0 := at_cells bq 0 rfl
            have q1 := at_cells bq 1 rfl
            have q2 := at_cells bq 2 rfl
            have q3 := at_cells bq 3 rfl
            have q4 := at_cells bq 4 rfl
            have q5 := at_cells bq 5 rfl
            have HPQ := hidS (HP.out.fr (HW5.out.trans fq) (by simp))
            have HKQ : Hid (∀ w', Fr [] wr w' → KAt B0 w' xla xl) := fun w' h => HK5.out.fr (fq.trans h) (by simp)
            by_cases e75 : ch.toNat = 75
            · have d75 : ((ch.toNat : Int) == 75) = true := by simp [e75]
              have C33 := format_any xk HWX.out.k wr HPQ.out
              have hs33 : (txt (Lib.itoa xk)).size ≤ 21 := by rw [txt_size]; exact itoa_len HWX.out.k
              have HS4 : Hid (T3 ++ txt (Lib.itoa xk) = txt (PRE ++ fldsL ⟨xop, xa, xb, xc, xk, xla, xlc, xl⟩ (FT.take (p + 1)))) := by
                unfold Hid
                rw [HS3.out, HTK2.out, cat_txt, e75]
                simp [valL, List.append_assoc]
              clear e75 hlet
              generalize txt (Lib.itoa xk) = SK at *
              have n1 : ¬ 9223372036854775807 < T3.size + SK.size := by omega
              go_wp2_with (go_at_call 33; with_reducible (refine C33.mono ?_); rintro e w9 ⟨rfl, f9⟩)
              go_roundw
              case rel => exact ⟨p + 1, _, hlt2, by go_num, rfl, HS4, fq.trans f9⟩
              case measure => simp [intOf]; omega
            · have d75 : ((ch.toNat : Int) == 75) = false := beq_int_false (by omega)
              by_cases e76 : ch.toNat = 76
              · have d76 : ((ch.toNat : Int) == 76) = true := by simp [e76]
                have HS4 : Hid (PRE ++ fldsL ⟨xop, xa, xb, xc, xk, xla, xlc, xl⟩ (FT.take (p + 1)) = PRE ++ fldsL ⟨xop, xa, xb, xc, xk, xla, xlc, xl⟩ (FT.take p) ++ ([32] ++ [ch] ++ [61]) ++ joinB xl) := by
                  unfold Hid
                  rw [HTK2.out, e76]
                  simp [valL, List.append_assoc]
                have HL4 : Hid ((PRE ++ fldsL ⟨xop, xa, xb, xc, xk, xla, xlc, xl⟩ (FT.take p) ++ ([32] ++ [ch] ++ [61])).length + 22 * xl.length ≤ 300000000) := by
                  have h1 := HLP.out
                  rw [HTK2.out] at h1
                  unfold Hid
                  simp only [List.length_append] at h1 ⊢
                  omega
                clear e75 e76 hlet HTK2 HLP
                generalize PRE ++ fldsL ⟨xop, xa, xb, xc, xk, xla, xlc, xl⟩ (FT.take p) ++ ([32] ++ [ch] ++ [61]) = BASE at *
                have hxlI : (xl.length : Int) ≤ 1048576 := by omega
                go_wp2
                clear q0 q1 q2 q3 q4 q5
                go_loopw [3, 11, 12, 93] (fun s _ _ ix wv => ∃ (j : Nat) (S : ByteArray), j ≤ xl.length ∧ ix = .int .i64 j ∧ s = .string S ∧ Hid (S = txt (BASE ++ joinB (xl.take j))) ∧ Fr [] wr wv) (fun _ _ _ ix _ => xl.length - (intOf ix).toNat)
                case atStart => exact ⟨0, T3, Nat.zero_le _, rfl, rfl, by unfold Hid; rw [HS3.out]; simp [joinB, Lib.join_nil], Fr.refl _ _⟩
                case round =>
                  obtain ⟨j, S5, hj, rfl, rfl, HS5, fv⟩ := hrel
                  have hS5 : S5.size ≤ 300000000 := by
                    rw [HS5.out, txt_size, List.length_append]
                    have h1 := HL4.out
                    have h2 := joinB_len (l := xl.take j) (fun z hz => HWX.out.l z (List.mem_of_mem_take hz))
                    have h3 : (xl.take j).length ≤ xl.length := by simp; omega
                    omega
                  by_cases hlt3 : j < xl.length
                  · have hjI : (j : Int) < xl.length := by omega
                    have hz : xl[j]? = some xl[j] := List.getElem?_eq_getElem hlt3
                    have HJS := hidS (joinB_succ hz)
                    have hwz := HWX.out.l xl[j] (List.getElem_mem _)
                    generalize xl[j] = z at *
                    obtain ⟨zb, zo, hza, _, zc⟩ := HKQ.out _ fv j z hz
                    subst hza
                    have C28 := itoa_any z hwz _ (HPQ.out.fr fv (by simp))
                    have hsz : (txt (Lib.itoa z)).size ≤ 21 := by rw [txt_size]; exact itoa_len hwz
                    clear hz
                    by_cases hj0 : 0 < j
                    rotate_left
                    · have HS6 : Hid (S5 ++ txt (Lib.itoa z) = txt (BASE ++ joinB (xl.take (j + 1)))) := by
                        unfold Hid
                        have e : j = 0 := by omega
                        rw [HJS.out, if_pos e, HS5.out, cat_txt, e]
                        simp [joinB, Lib.join_nil]
                      generalize txt (Lib.itoa z) = SZ at *
                      have n1 : ¬ 9223372036854775807 < S5.size + SZ.size := by omega
                      go_wp2_with (go_at_call 28; with_reducible (refine C28.mono ?_); rintro e w9 ⟨rfl, f9⟩)
                      go_roundw
                      case rel => exact ⟨j + 1, _, hlt3, by go_num, rfl, HS6, fv.trans f9⟩
                      case measure => simp [intOf]; omega
                    · have hj0I : 0 < (j : Int) := by omega
                      have HS6 : Hid (S5 ++ ⟨#[44]⟩ ++ txt (Lib.itoa z) = txt (BASE ++ joinB (xl.take (j + 1)))) := by
                        unfold Hid
                        rw [HJS.out, HS5.out, if_neg (by omega), lit_txt #[44], cat_txt, cat_txt]
                        simp [List.append_assoc]
                      generalize txt (Lib.itoa z) = SZ at *
                      have n0 : ¬ 9223372036854775807 < S5.size + 1 := by omega
                      have n1 : ¬ 9223372036854775807 < S5.size + 1 + SZ.size := by omega
                      go_wp2_with (go_at_call 28; with_reducible (refine C28.mono ?_); rintro e w9 ⟨rfl, f9⟩)
                      go_roundw
                      case rel => exact ⟨j + 1, _, hlt3, by go_num, rfl, HS6, fv.trans f9⟩
                      case measure => simp [intOf]; omega
                  · have hjI : ¬ (j : Int) < xl.length := by omega
                    have HS6 : Hid (S5 = txt (PRE ++ fldsL ⟨xop, xa, xb, xc, xk, xla, xlc, xl⟩ (FT.take (p + 1)))) := by
                      unfold Hid
                      rw [HS5.out, HS4.out, List.take_of_length_le (by omega)]
                    have HFV := hidS (fq.trans fv)
                    go_wp2
                    go_roundw
                    case rel => exact ⟨p + 1, _, hlt2, by go_num, rfl, HS6, HFV.out⟩
                    case measure => simp [intOf]; omega
              · have d76 : ((ch.toNat : Int) == 76) = false := beq_int_false (by omega)
                have hfw : (Lit.int .i64 (fieldL ⟨xop, xa, xb, xc, xk, xla, xlc, xl⟩ ch.toNat)).wf = true := by
                  unfold fieldL
                  split
                  · exact HWX.out.a
                  · split
                    · exact HWX.out.b
                    · exact HWX.out.c
                have C34 := fun w' => field_any ⟨xop, xa, xb, xc, xk, xla, xlc, xl⟩ ch.toNat w'
                unfold In.arr at C34
                have C28 := fun w' (h : Fr [] wr w') => itoa_any (fieldL ⟨xop, xa, xb, xc, xk, xla, xlc, xl⟩ ch.toNat) hfw w' (HPQ.out.fr h (by simp))
                have hsz : (txt (Lib.itoa (fieldL ⟨xop, xa, xb, xc, xk, xla, xlc, xl⟩ ch.toNat))).size ≤ 21 := by rw [txt_size]; exact itoa_len hfw
                have HS4 : Hid (T3 ++ txt (Lib.itoa (fieldL ⟨xop, xa, xb, xc, xk, xla, xlc, xl⟩ ch.toNat)) = txt (PRE ++ fldsL ⟨xop, xa, xb, xc, xk, xla, xlc, xl⟩ (FT.take (p + 1)))) := by
                  unfold Hid
                  rw [HS3.out, HTK2.out, cat_txt]
                  simp [valL, e75, e76, List.append_assoc]
                clear e75 e76 hlet HTK2 HLP
                generalize fieldL ⟨xop, xa, xb, xc, xk, xla, xlc, xl⟩ ch.toNat = fv at *
                generalize txt (Lib.itoa fv) = SZ at *
                have n1 : ¬ 9223372036854775807 < T3.size + SZ.size := by omega
                have r0 : ∀ w', Fr [] wr w' → w'.cell? ⟨k5, 0, none⟩ = some (.int .i64 xop) := fun w' h => h.cell1 q0 (by simp)
                have r1 : ∀ w', Fr [] wr w' → w'.cell? ⟨k5, 1, none⟩ = some (.int .i64 xa) := fun w' h => h.cell1 q1 (by simp)
                have r2 : ∀ w', Fr [] wr w' → w'.cell? ⟨k5, 2, none⟩ = some (.int .i64 xb) := fun w' h => h.cell1 q2 (by simp)
                have r3 : ∀ w', Fr [] wr w' → w'.cell? ⟨k5, 3, none⟩ = some (.int .i64 xc) := fun w' h => h.cell1 q3 (by simp)
                have r4 : ∀ w', Fr [] wr w' → w'.cell? ⟨k5, 4, none⟩ = some (.int .i64 xk) := fun w' h => h.cell1 q4 (by simp)
                have r5 : ∀ w', Fr [] wr w' → w'.cell? ⟨k5, 5, none⟩ = some (.slice xla xl.length xlc) := fun w' h => h.cell1 q5 (by simp)
                have RF : Fr [] wr wr := Fr.refl _ _
                have HD : ∀ w' : World, Fr [] wr w' → Fr [] wr w'.drew := fun w' h => h.drew
                clear q0 q1 q2 q3 q4 q5 bq
                go_wp2_with fail
                go_region_held3 (fun w' : World => Fr [] wr w')
                  (with_reducible (first | assumption | exact HD _ (by assumption)))
                  (first
                    | (go_at_call 34; with_reducible (refine (C34 _).mono ?_); rintro e w8 ⟨rfl, f8⟩; have F8 : Fr [] wr w8 := Fr.trans (by assumption) f8)
                    | (go_at_call 28; with_reducible (refine (C28 _ (by assumption)).mono ?_); rintro e w9 ⟨rfl, f9⟩; have F9 : Fr [] wr w9 := Fr.trans (by assumption) f9))
                all_goals
                  have HF9 := hidS (fq.trans F9)
                  clear C34 C28 r0 r1 r2 r3 r4 r5 HD
                  go_wp2
                  go_roundw
                  case rel => exact ⟨p + 1, _, hlt2, by go_num, rfl, HS4, HF9.out⟩
                  case measure => simp [intOf]; omega
          · have hps : ¬ p < (txt RT).size := by rw [HSZ.out, hrt]; exact hlt2
            have hpI : ¬ (p : Int) < (txt RT).size := by omega
            have HS9 : Hid (S' ++ ⟨#[10]⟩ = txt (HDL ++ linesL 0 (fcode.take (k + 1)))) := by
              unfold Hid
              rw [HS.out, List.take_of_length_le (by omega), HEQ.out, lit_txt #[10], cat_txt]
            have hSs : S'.size ≤ 200000000 := by
              rw [HS.out, List.take_of_length_le (by omega), txt_size]
              have h1 := HLT.out
              omega
            have n1 : ¬ 9223372036854775807 < S'.size + 1 := by omega
            have HFQ := hidS (HW5.out.trans fq)
            clear hrt
            go_wp2
            go_roundw
            case rel => exact ⟨k + 1, _, hlt, by go_num, rfl, HS9, HFQ.out⟩
            case measure => simp [intOf]; omega
    · have hkI2 : ¬ (k : Int) < fcode.length := by omega
      have HSX : Hid (S = txt SHL) := by
        unfold Hid
        rw [HS.out, List.take_of_length_le (by omega), ← HSH.out]
      have HFW := hidS (HF1.out.trans fw)
      go_wp2
      go_ret
      exact ⟨by rw [HSE.out, ← HSX.out]; rfl, HFW.out⟩
end Go.Proofs.YtdaealionicmjaaDoor
