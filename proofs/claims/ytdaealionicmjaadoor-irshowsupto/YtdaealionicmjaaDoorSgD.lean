/-
  A function's code as the program shows it; conditions: the function lies as told, its numbers are numbers, the tables lie as their texts lay them, it is not too much.
-/
import Derived.Test.YtdaealionicmjaaDoorSgC
import Derived.Test.YtdaealionicmjaaDoorIrE
import Derived.Deep.RegionHeld3
namespace Go.Proofs.YtdaealionicmjaaDoor
open Go.RowKit
set_option linter.unusedVariables false
set_option linter.unusedSimpArgs false

theorem below_toFr {B : Nat} {w w' : World} (h : Below B w w') : Fr ((List.range w.heap.size).filter (fun k => decide (B ≤ k))) w w' :=
  ⟨h.os, h.tape, h.output, h.size, fun k hk hS => h.block k (by
    rcases Nat.lt_or_ge k B with h1 | h1
    · exact h1
    · exact absurd (List.mem_filter.2 ⟨List.mem_range.2 hk, by simpa using h1⟩) hS)⟩
theorem toFr_lo {B : Nat} {w : World} {n : Nat} (hn : n ≤ B) : ∀ k, k ∈ (List.range w.heap.size).filter (fun k => decide (B ≤ k)) → n ≤ k := fun k hk => by
  have := (List.mem_filter.1 hk).2
  simp at this
  omega
theorem below_cell {B : Nat} {w w' : World} (h : Below B w w') {p : Addr} {u : Value} (hc : w.cell? p = some u) (hp : p.block < B) : w'.cell? p = some u := (h.cell hp).trans hc
theorem FB.iterAt {B b N : Nat} {w0 w : World} (h : FB B b w0 w) (s : ByteArray) (p : Nat) (hN : w0.heap.size ≤ N) (hB : B ≤ w0.heap.size) : FB B b w0 (w.iterAt N s p) := by
  have f := Fr.iterAt w N s p
  have g := f.below (B := B) (Nat.le_trans hB h.low.size) (fun k hk => by simp at hk; omega)
  refine ⟨h.low.trans g, fun k o e1 e2 e3 => ?_⟩
  have h1 := h.keep k o e1 e2 e3
  have l1 := (Array.getElem?_eq_some_iff.1 e1).1
  exact (f.block _ (Array.getElem?_eq_some_iff.1 h1).1 (by simp; omega)).trans h1
theorem BD.iterAt {B b N : Nat} {l : List UInt8} {w : World} {t : ByteArray} {q : Nat} (h : BD B b l w) (hi : w.heap[N]? = some (.stringIter t q)) (s : ByteArray) (p : Nat) : BD B b l (w.iterAt N s p) := by
  have f := Fr.iterAt w N s p
  have go : ∀ {pv : Value}, Lib.BuilderAt 54 5 B b pv (Lib.byteCells l) w → Lib.BuilderAt 54 5 B b pv (Lib.byteCells l) (w.iterAt N s p) := fun ⟨h1, v, h2, h3, h4⟩ => by
    have n1 : b ≠ N := fun e => by rw [e, hi] at h2; cases h2
    have n2 : v.ownBlock ≠ some N := own_notloop h3 hi (by simp)
    exact ⟨h1, v, (f.block _ (Array.getElem?_eq_some_iff.1 h2).1 (by simpa using n1)).trans h2, own_fr h3 f (fun k hk hm => n2 (by simp at hm; rw [← hm]; exact hk)), h4⟩
  rcases h with h | h
  · exact .inl (go h)
  · exact .inr (go h)
theorem BD.b {B b : Nat} {l : List UInt8} {w : World} (h : BD B b l w) : B ≤ b ∧ b < w.heap.size := by
  rcases h with ⟨h1, v, h2, _⟩ | ⟨h1, v, h2, _⟩ <;> exact ⟨h1, (Array.getElem?_eq_some_iff.1 h2).1⟩
/-- All tables that Show reads. -/
structure TS (w : World) : Prop where
  n : Tab1 w 0 namesT
  t : Tabs w
  p : Pw w
theorem TS.fr {S : List Nat} {w w' : World} (h : TS w) (f : Fr S w w') (hS : ∀ k, k ∈ S → 5 ≤ k) : TS w' := ⟨h.n.fr f (fun hm => by have := hS _ hm; omega), h.t.fr f (fun k hk => by have := hS k hk; omega), h.p.fr f hS⟩
theorem TS.below {B : Nat} {w w' : World} (h : TS w) (f : Below B w w') (hB : 5 ≤ B) : TS w' := h.fr (below_toFr f) (toFr_lo hB)
theorem ascii_fl : ∀ n, n < 29 → ∀ c, c ∈ fieldsT.getD n [] → (c = 65 ∨ c = 66 ∨ c = 67 ∨ c = 99 ∨ c = 75 ∨ c = 76) := by decide

set_option maxRecDepth 100000 in
set_option maxHeartbeats 16000000 in
theorem show_any {B0 : Nat} {w : World} {f : Fu} (hf : FuOk B0 w f) (hB : B0 ≤ w.heap.size) (hw : WfFu f) (T : TS w) (hc : costF f ≤ 1048576) :
    Calls Tryd.prog 12 #[.agg f.arr] w fun e w' => e = .returned (.string (txt (showL f))) ∧ Fr [] w w' := by
  have HLEN := hidS (showL_len hw hc)
  have ecost : costF f = (f.code.map costI).sum + f.name.size + 1 := rfl
  have hcl := costI_len f.code
  have hkl : f.code.length ≤ 1048576 := by omega
  have hkI : (f.code.length : Int) ≤ 1048576 := by omega
  have hnm : f.name.size ≤ 1048576 := by omega
  have HCI : Hid (∀ x, x ∈ f.code → x.l.length ≤ 1048576) := fun x hx => by have := costI_mem hx; omega
  have HWF := hidS hw
  have F1 : Fr [] w ((w.alloc (.cells f.arr 34)).alloc (.cells #[.pointer none, .slice none 0 0] 54)) := ((Fr.refl _ _).alloc _).alloc _
  have c1 := heap_alloc_new w (.cells f.arr 34)
  have bf := keep_alloc (u := .cells #[.pointer none, .slice none 0 0] 54) c1
  have bb := blk2 w (.cells f.arr 34) (.cells #[.pointer none, .slice none 0 0] 54)
  have BD0 : BD (w.heap.size + 1) (w.heap.size + 1) [] ((w.alloc (.cells f.arr 34)).alloc (.cells #[.pointer none, .slice none 0 0] 54)) := .inl ⟨Nat.le_refl _, _, bb, World.ownsRow_nil _ _ _ _, by simp [Value.ownBlock]⟩
  have HF1 := hidS F1
  have HTS := hidS (T.fr F1 (by simp))
  have HFO := hidS (hf.fr F1 (by simp))
  have HBB : Hid (B0 ≤ w.heap.size) := hB
  have HT5 : Hid (5 ≤ w.heap.size) := T.p.len
  unfold Fu.arr at *
  have q0 : w.heap.size + 1 ≤ ((w.alloc (.cells #[.string f.name, .int .i64 f.ps, .int .i64 f.rs, .slice f.ca f.code.length f.cc] 34)).alloc (.cells #[.pointer none, .slice none 0 0] 54)).heap.size := by simp
  go_enter Tryd.func12, Tryd.ntmps12
  go_upto_region 2 with fail
  generalize (w.alloc (.cells #[.string f.name, .int .i64 f.ps, .int .i64 f.rs, .slice f.ca f.code.length f.cc] 34)).alloc (.cells #[.pointer none, .slice none 0 0] 54) = W1 at *
  have HQ0 := hidS q0
  have HBF := hidS bf
  have HBD0 := hidS BD0
  clear c1 bb F1 hf T q0 BD0 ecost hcl hc hw
  have HBC : Hid (∀ w' (j : Nat) u, FB (w.heap.size + 1) (w.heap.size + 1) W1 w' → (#[Value.string f.name, .int .i64 f.ps, .int .i64 f.rs, .slice f.ca f.code.length f.cc] : Array Value)[j]? = some u → w'.cell? ⟨w.heap.size, j, none⟩ = some u) := fun w' j u h hu => below_cell h.low (at_cells HBF.out j hu) (by simp)
  have y0 : ∀ w', FB (w.heap.size + 1) (w.heap.size + 1) W1 w' → w'.cell? ⟨w.heap.size, 0, none⟩ = some (.string f.name) := fun w' h => HBC.out w' 0 _ h rfl
  have y1 : ∀ w', FB (w.heap.size + 1) (w.heap.size + 1) W1 w' → w'.cell? ⟨w.heap.size, 1, none⟩ = some (.int .i64 f.ps) := fun w' h => HBC.out w' 1 _ h rfl
  have y2 : ∀ w', FB (w.heap.size + 1) (w.heap.size + 1) W1 w' → w'.cell? ⟨w.heap.size, 2, none⟩ = some (.int .i64 f.rs) := fun w' h => HBC.out w' 2 _ h rfl
  have CP := fun w' (h : Fr [] W1 w') => itoa_any f.ps HWF.out.p w' (HTS.out.p.fr h (by simp))
  have CR := fun w' (h : Fr [] W1 w') => itoa_any f.rs HWF.out.r w' (HTS.out.p.fr h (by simp))
  have hsp : (txt (Lib.itoa f.ps)).size ≤ 21 := by rw [txt_size]; exact itoa_len HWF.out.p
  have hsr : (txt (Lib.itoa f.rs)).size ≤ 21 := by rw [txt_size]; exact itoa_len HWF.out.r
  have HHD : Hid (((((((⟨#[102, 110, 32]⟩ : ByteArray) ++ f.name) ++ ⟨#[32]⟩) ++ txt (Lib.itoa f.ps)) ++ ⟨#[32]⟩) ++ txt (Lib.itoa f.rs)) ++ ⟨#[10]⟩ = txt (headL f)) := by
    unfold Hid headL
    have e : f.name = txt f.name.data.toList := by simp [txt]
    rw [e, lit_txt #[102, 110, 32], lit_txt #[32], lit_txt #[10]]
    simp only [cat_txt, data_txt]
  generalize txt (Lib.itoa f.ps) = SP at *
  generalize txt (Lib.itoa f.rs) = SR at *
  have CW : ∀ w', Fr [] W1 w' → Calls Tryd.prog 27 #[.pointer (some ⟨w.heap.size + 1, 0, none⟩), .string (((((((⟨#[102, 110, 32]⟩ : ByteArray) ++ f.name) ++ ⟨#[32]⟩) ++ SP) ++ ⟨#[32]⟩) ++ SR) ++ ⟨#[10]⟩)] w' (fun e w'' => (∃ z : Int, e = .returned (.tuple #[.int .i64 z, .nilIface])) ∧ BD (w.heap.size + 1) (w.heap.size + 1) (headL f) w'' ∧ FB (w.heap.size + 1) (w.heap.size + 1) w' w'') := fun w' h => by
    rw [HHD.out]
    have hl : (headL f).length ≤ 200000000 := by have := HLEN.out; unfold showL at this; simp only [List.length_append] at this; omega
    refine (write_any (HBD0.out.fr h) (txt (headL f)) (by simp [txt_size]; omega)).mono ?_
    rintro e w'' ⟨rfl, h1, h2⟩
    rw [data_txt, List.nil_append] at h1
    exact ⟨⟨_, rfl⟩, h1, h2⟩
  have n1 : ¬ 9223372036854775807 < 3 + f.name.size := by omega
  have n2 : ¬ 9223372036854775807 < 3 + f.name.size + 1 := by omega
  have n3 : ¬ 9223372036854775807 < 3 + f.name.size + 1 + SP.size := by omega
  have n4 : ¬ 9223372036854775807 < 3 + f.name.size + 1 + SP.size + 1 := by omega
  have n5 : ¬ 9223372036854775807 < 3 + f.name.size + 1 + SP.size + 1 + SR.size := by omega
  have n6 : ¬ 9223372036854775807 < 3 + f.name.size + 1 + SP.size + 1 + SR.size + 1 := by omega
  have RF : Fr [] W1 W1 := Fr.refl _ _
  have RB := FB.refl (w.heap.size + 1) (w.heap.size + 1) W1
  have HD : ∀ w' : World, FB (w.heap.size + 1) (w.heap.size + 1) W1 w' → FB (w.heap.size + 1) (w.heap.size + 1) W1 w'.drew := fun w' h => h.trans (FB.ofFr (Fr.drew (Fr.refl _ _)) (by have := h.low.size; have := HQ0.out; omega))
  have HO : ∀ w' : World, Fr [] W1 w' → FB (w.heap.size + 1) (w.heap.size + 1) W1 w' := fun w' h => FB.ofFr h HQ0.out
  go_region_held3 (fun w' : World => FB (w.heap.size + 1) (w.heap.size + 1) W1 w')
    (with_reducible (first | assumption | exact HD _ (by assumption)))
    (first
      | (go_at_call 28; with_reducible (refine (CP _ (by first | exact RF | exact RF.drew | assumption | exact Fr.drew (by assumption))).mono ?_); rintro e w2 ⟨rfl, f2⟩; have F2 : Fr [] W1 w2 := Fr.trans (by first | exact RF | exact RF.drew | assumption | exact Fr.drew (by assumption)) f2; have B2 := HO _ F2)
      | (go_at_call 28; with_reducible (refine (CR _ (by first | exact RF | exact RF.drew | assumption | exact Fr.drew (by assumption))).mono ?_); rintro e w2 ⟨rfl, f2⟩; have F2 : Fr [] W1 w2 := Fr.trans (by first | exact RF | exact RF.drew | assumption | exact Fr.drew (by assumption)) f2; have B2 := HO _ F2)
      | (go_at_call 27; with_reducible (refine (CW _ (by first | assumption | exact Fr.drew (by assumption))).mono ?_); rintro e w3 ⟨⟨z3, rfl⟩, b3, k3⟩; have B3 : FB (w.heap.size + 1) (w.heap.size + 1) W1 w3 := FB.trans (by first | assumption | exact HD _ (by assumption)) k3))
  have HB3 := hidS b3
  have HK3 := hidS B3
  have y3 := HBC.out w3 3 _ B3 rfl
  have HSH : Hid (showL f = headL f ++ linesL 0 f.code) := rfl
  clear CP CR CW y0 y1 y2 HD HO RF RB k3 b3 B3 B2 F2 f2 n1 n2 n3 n4 n5 n6 hsp hsr HHD HBD0 HBF
  have HBQ : Hid (w.heap.size < w.heap.size + 1) := Nat.lt_succ_self _
  have HTB : Hid (5 ≤ w.heap.size + 1 ∧ B0 ≤ w.heap.size + 1) := ⟨by have := HT5.out; omega, by omega⟩
  generalize w.heap.size + 1 = B at *
  generalize headL f = HDL at *
  generalize hSE : showL f = SHL at *
  have HSE := hidS hSE
  clear hSE
  obtain ⟨fnm, fps, frs, fca, fcc, fcode⟩ := f
  simp only at *
  go_wp2
  clear y3
  go_loopw [4, 5, 6, 8, 27] (fun _ _ _ _ ix wr => ∃ k : Nat, k ≤ fcode.length ∧ ix = .int .i64 k ∧ BD B B (HDL ++ linesL 0 (fcode.take k)) wr ∧ FB B B W1 wr) (fun _ _ _ _ ix _ => fcode.length - (intOf ix).toNat)
  case atStart => exact ⟨0, Nat.zero_le _, rfl, by simpa [linesL] using HB3.out, HK3.out⟩
  case round =>
    clear HB3 HK3
    obtain ⟨k, hk, rfl, bw, fw⟩ := hrel
    by_cases hlt : k < fcode.length
    · have hkI2 : (k : Int) < fcode.length := by omega
      have hx : fcode[k]? = some fcode[k] := List.getElem?_eq_getElem hlt
      have HTK : Hid (linesL 0 (fcode.take (k + 1)) = linesL 0 (fcode.take k) ++ lineL k fcode[k]) := by
        unfold Hid
        rw [List.take_add_one, hx, linesL_app]
        simp [linesL, Nat.min_eq_left (Nat.le_of_lt hlt)]
      have HLK : Hid ((HDL ++ linesL 0 (fcode.take (k + 1))).length ≤ 200000000) := by
        have h1 := HLEN.out
        rw [HSH.out, ← List.take_append_drop (k + 1) fcode, linesL_app] at h1
        unfold Hid
        simp only [List.length_append] at h1 ⊢
        omega
      have hwx := HWF.out.c fcode[k] (List.getElem_mem _)
      have hxl := HCI.out fcode[k] (List.getElem_mem _)
      generalize fcode[k] = x at *
      obtain ⟨b2, o2, hca, hb2, hI2⟩ := (HFO.out.fr (below_toFr fw.low) (toFr_lo HTB.out.2)).k k x hx
      obtain ⟨c0, c1, c2, c3, c4, c5, _⟩ := hI2
      obtain ⟨b3, o3, e3, _, hI3⟩ := HFO.out.k k x hx
      clear e3
      have HOX := hidS hI3.ok
      have HWX := hidS hwx
      subst hca
      have HPRE := hidS bw
      have HFW := hidS fw
      clear hx hI3 hwx
      have hrl := rowN_lt x.op
      have CROW := fun w' => Calls.mono (row_any x.op w') (fun e w'' (h : e = .returned (.int .i64 (rowN x.op : Nat)) ∧ w'' = w') => (⟨h.1, h.2.symm⟩ : e = .returned (.int .i64 (rowN x.op : Nat)) ∧ w' = w''))
      obtain ⟨xop, xa, xb, xc, xk, xla, xlc, xl⟩ := x
      simp only at *
      have g1 : Fr [] wr (wr.alloc (.cells #[.int .i64 xop, .int .i64 xa, .int .i64 xb, .int .i64 xc, .int .i64 xk, .slice xla xl.length xlc] 39)) := (Fr.refl _ _).alloc _
      have bx := heap_alloc_new wr (.cells #[.int .i64 xop, .int .i64 xa, .int .i64 xb, .int .i64 xc, .int .i64 xk, .slice xla xl.length xlc] 39)
      have hBw : B ≤ wr.heap.size := by have := bw.b; omega
      have fw1 := fw.trans (FB.ofFr (b := B) g1 hBw)
      have bw1 := bw.fr g1
      have d0 := at_cells bx 0 rfl
      have nb2 : b2 ≠ wr.heap.size := by have := World.block_lt_of_cell? wr _ c0; simp only at this; omega
      clear bw fw g1
      go_upto_region 7 with (go_at_call 29; with_reducible (refine (CROW _).mono ?_); rintro e w' ⟨rfl, rfl⟩)
      clear c0 c1 c2 c3 c4 c5 d0 nb2 CROW
      have HBX := hidS bx
      have HS5 : Hid (wr.heap.size ≠ B ∧ W1.heap.size ≤ wr.heap.size) := ⟨by have := HPRE.out.b; omega, HFW.out.low.size⟩
      generalize wr.heap.size = k5 at *
      generalize wr.alloc (.cells #[.int .i64 xop, .int .i64 xa, .int .i64 xb, .int .i64 xc, .int .i64 xk, .slice xla xl.length xlc] 39) = W5 at *
      have HB1 := hidS bw1
      have HF5 := hidS fw1
      have HB5 : Hid (B ≤ W5.heap.size) := by have := bw1.b; unfold Hid; omega
      clear bx bw1 fw1 hBw
      have HT5 := hidS (HTS.out.below HF5.out.low HTB.out.1)
      have t0 : ∀ w', FB B B W5 w' → w'.cell? ⟨0, rowN xop, none⟩ = some (.string (txt (nT xop))) := fun w' h => (HT5.out.below h.low HTB.out.1).n.cell _ hrl
      have HT1 : Hid (∀ w', FB B B W5 w' → w'.cell? ⟨1, rowN xop, none⟩ = some (.string (txt (fT xop)))) := fun w' h => (HT5.out.below h.low HTB.out.1).t.f.cell _ hrl
      have hrI : (rowN xop : Int) < 29 := by omega
      have hwk : (Lit.int .i64 (k : Int)).wf = true := by
        have e1 : IntKind.min .i64 = -9223372036854775808 := by decide
        simp [Lit.wf, e1]; omega
      have CN := fun w' (h : Fr [] W5 w') => itoa_any (k : Int) hwk w' (HT5.out.p.fr h (by simp))
      have hsn : (txt (Lib.itoa (k : Int))).size ≤ 21 := by rw [txt_size]; exact itoa_len hwk
      have hsm : (txt (nT xop)).size ≤ 7 := by rw [txt_size]; exact n_len _ hrl
      have HH7 : Hid ((txt (Lib.itoa (k : Int)) ++ ⟨#[58, 32]⟩) ++ txt (nT xop) = txt (Lib.itoa (k : Int) ++ [58, 32] ++ nT xop)) := by
        unfold Hid
        rw [lit_txt #[58, 32]]
        simp only [cat_txt]
      have HLN : Hid (lineL k ⟨xop, xa, xb, xc, xk, xla, xlc, xl⟩ = (Lib.itoa (k : Int) ++ [58, 32] ++ nT xop) ++ fldsL ⟨xop, xa, xb, xc, xk, xla, xlc, xl⟩ (fT xop) ++ [10]) := rfl
      generalize Lib.itoa (k : Int) ++ [58, 32] ++ nT xop = L7 at *
      generalize txt (Lib.itoa (k : Int)) = SN at *
      generalize txt (nT xop) = NM at *
      have HL7 : Hid ((HDL ++ linesL 0 (fcode.take k)).length + L7.length ≤ 200000000) := by
        have h1 := HLK.out
        rw [HTK.out, HLN.out] at h1
        unfold Hid
        simp only [List.length_append] at h1 ⊢
        omega
      have CW : ∀ w', Fr [] W5 w' → Calls Tryd.prog 27 #[.pointer (some ⟨B, 0, none⟩), .string ((SN ++ ⟨#[58, 32]⟩) ++ NM)] w' (fun e w'' => (∃ z : Int, e = .returned (.tuple #[.int .i64 z, .nilIface])) ∧ BD B B (HDL ++ linesL 0 (fcode.take k) ++ L7) w'' ∧ FB B B w' w'') := fun w' h => by
        rw [HH7.out]
        refine (write_any (HB1.out.fr h) (txt L7) (by rw [txt_size]; have := HL7.out; omega)).mono ?_
        rintro e w'' ⟨rfl, h1, h2⟩
        rw [data_txt] at h1
        exact ⟨⟨_, rfl⟩, h1, h2⟩
      have n1 : ¬ 9223372036854775807 < SN.size + 2 := by omega
      have n2 : ¬ 9223372036854775807 < SN.size + 2 + NM.size := by omega
      have RF : Fr [] W5 W5 := Fr.refl _ _
      have RB := FB.refl B B W5
      have HD : ∀ w' : World, FB B B W5 w' → FB B B W5 w'.drew := fun w' h => h.trans (FB.ofFr (Fr.drew (Fr.refl _ _)) (by have := h.low.size; have := HB5.out; omega))
      have HO : ∀ w' : World, Fr [] W5 w' → FB B B W5 w' := fun w' h => FB.ofFr h HB5.out
      go_region_held3 (fun w' : World => FB B B W5 w')
        (with_reducible (first | assumption | exact HD _ (by assumption)))
        (first
          | (go_at_call 28; with_reducible (refine (CN _ (by first | exact RF | exact RF.drew | assumption | exact Fr.drew (by assumption))).mono ?_); rintro e w2 ⟨rfl, f2⟩; have F2 : Fr [] W5 w2 := Fr.trans (by first | exact RF | exact RF.drew | assumption | exact Fr.drew (by assumption)) f2; have B2 := HO _ F2)
          | (go_at_call 27; with_reducible (refine (CW _ (by first | assumption | exact Fr.drew (by assumption))).mono ?_); rintro e w7 ⟨⟨z7, rfl⟩, b7, k7⟩; have B7 : FB B B W5 w7 := FB.trans (by first | assumption | exact HD _ (by assumption)) k7))
      have HB7 := hidS b7
      have HF7 := hidS (HF5.out.trans B7)
      have y1 := HT1.out _ B7
      have HX7 := hidS (B7.keep k5 _ HBX.out (fun c z e => by cases e) HS5.out.1)
      clear CN CW t0 n1 n2 RF RB HD HO f2 F2 B2 k7 b7 hsn hsm HH7 B7
      have hfl : (fT xop).length ≤ 4 := f_len _ hrl
      have HSZ := hidS (txt_size (fT xop))
      have HAS : Hid (∀ (i : Nat) (h : i < (fT xop).length), ((fT xop)[i]'h).toNat < 128 ∧ (((fT xop)[i]'h).toNat = 65 ∨ ((fT xop)[i]'h).toNat = 66 ∨ ((fT xop)[i]'h).toNat = 67 ∨ ((fT xop)[i]'h).toNat = 99 ∨ ((fT xop)[i]'h).toNat = 75 ∨ ((fT xop)[i]'h).toNat = 76)) := fun i h => by
        have := ascii_fl _ hrl ((fT xop)[i]'h) (List.getElem_mem _)
        rcases this with e | e | e | e | e | e <;> rw [e] <;> decide
      have bI := World.iter_heap w7 (txt (fT xop)) 0
      have gI : Fr [] w7 (w7.iter (txt (fT xop)) 0) := (Fr.refl _ _).alloc _
      have HBI := hidS (HB7.out.fr gI)
      have HFI := hidS (HF7.out.trans (FB.ofFr (b := B) gI (by have := HB7.out.b; omega)))
      have HXI := hidS ((gI.block _ (Array.getElem?_eq_some_iff.1 HX7.out).1 (by simp)).trans HX7.out)
      have HIK : Hid (W1.heap.size ≤ w7.heap.size) := HF7.out.low.size
      have HFT : Hid (fT xop = fT xop) := rfl
      generalize hFT : fT xop = FT at *
      have HFE := hidS hFT
      clear hFT
      go_wp2
      clear y1
      have HLT : Hid ((HDL ++ linesL 0 (fcode.take k) ++ L7).length + (fldsL ⟨xop, xa, xb, xc, xk, xla, xlc, xl⟩ FT).length + 1 ≤ 200000000) := by
        have h1 := HLK.out
        rw [HTK.out, HLN.out] at h1
        unfold Hid
        simp only [List.length_append, List.length_cons, List.length_nil] at h1 ⊢
        omega
      have HEQ : Hid (HDL ++ linesL 0 (fcode.take (k + 1)) = (HDL ++ linesL 0 (fcode.take k) ++ L7) ++ fldsL ⟨xop, xa, xb, xc, xk, xla, xlc, xl⟩ FT ++ [10]) := by
        unfold Hid
        rw [HTK.out, HLN.out]
        simp only [List.append_assoc]
      generalize HDL ++ linesL 0 (fcode.take k) ++ L7 = PRE at *
      have HBIt := hidS bI
      clear bI gI
      generalize w7.heap.size = N at *
      generalize w7.iter (txt FT) 0 = W8 at *
      go_loopw [8] (fun _ wq => ∃ pos : Nat, pos ≤ FT.length ∧ wq.heap[N]? = some (.stringIter (txt FT) pos) ∧ BD B B (PRE ++ fldsL ⟨xop, xa, xb, xc, xk, xla, xlc, xl⟩ (FT.take pos)) wq ∧ FB B B W1 wq ∧ wq.heap[k5]? = some (.cells #[.int .i64 xop, .int .i64 xa, .int .i64 xb, .int .i64 xc, .int .i64 xk, .slice xla xl.length xlc] 39 (0, 0))) (fun _ wq => FT.length - wq.iterPos N)
      case atStart => exact ⟨0, Nat.zero_le _, HBIt.out, by simpa [fldsL] using HBI.out, HFI.out, HXI.out⟩
      case round =>
        clear HBIt HBI HFI HXI HB7 HF7 HX7
        obtain ⟨pos, hp, hit, bq, fq, xq⟩ := hrel
        have hmu : wr.iterPos N = pos := iterPos_of hit
        by_cases hlt2 : pos < FT.length
        · have hsz : pos < (txt FT).size := by rw [HSZ.out]; exact hlt2
          obtain ⟨ha1, ha2⟩ := HAS.out pos hlt2
          have hnx := fun ty => Lib.run_next_ascii_at (P := Tryd.prog) wr N (txt FT) pos ty hit hsz (by rw [index_txt FT pos hlt2]; exact ha1)
          rw [index_txt FT pos hlt2] at hnx
          have HTK2 : Hid (fldsL ⟨xop, xa, xb, xc, xk, xla, xlc, xl⟩ (FT.take (pos + 1)) = fldsL ⟨xop, xa, xb, xc, xk, xla, xlc, xl⟩ (FT.take pos) ++ fldL ⟨xop, xa, xb, xc, xk, xla, xlc, xl⟩ (FT[pos]'hlt2).toNat) := by
            unfold Hid fldsL
            rw [List.take_add_one, List.getElem?_eq_getElem hlt2, List.flatMap_append]
            simp
          have HLP : Hid ((fldsL ⟨xop, xa, xb, xc, xk, xla, xlc, xl⟩ (FT.take (pos + 1))).length ≤ (fldsL ⟨xop, xa, xb, xc, xk, xla, xlc, xl⟩ FT).length) := by
            have h1 : fldsL ⟨xop, xa, xb, xc, xk, xla, xlc, xl⟩ FT = fldsL ⟨xop, xa, xb, xc, xk, xla, xlc, xl⟩ (FT.take (pos + 1)) ++ fldsL ⟨xop, xa, xb, xc, xk, xla, xlc, xl⟩ (FT.drop (pos + 1)) := by unfold fldsL; rw [← List.flatMap_append, List.take_append_drop]
            unfold Hid
            rw [h1, List.length_append]
            omega
          have hit9 := Lib.iterAt_heap wr N (txt FT) pos (pos + 1) hit
          have bq9 := bq.iterAt hit (txt FT) (pos + 1)
          have fq9 := fq.iterAt (txt FT) (pos + 1) HIK.out HQ0.out
          have xq9 := ((Fr.iterAt wr N (txt FT) (pos + 1)).block k5 (Array.getElem?_eq_some_iff.1 xq).1 (fun hm => by simp at hm; rw [hm, hit] at xq; cases xq)).trans xq
          generalize (FT[pos]'hlt2).toNat = c at *
          generalize wr.iterAt N (txt FT) (pos + 1) = W9 at *
          have C30 := shown_any (HOX.out.fr (below_toFr fq9.low) (toFr_lo HTB.out.2)) (by have := fq9.low.size; have := HQ0.out; have := HTB.out.2; omega) HWX.out (HTS.out.below fq9.low HTB.out.1).p (by simp only; omega) c ha2
          unfold In.arr at C30
          have CW := fun w' (h : Fr [] W9 w') => write_any (bq9.fr h) (txt (fldL ⟨xop, xa, xb, xc, xk, xla, xlc, xl⟩ c)) (by
            have h1 := HLT.out
            have h2 := HLP.out
            rw [HTK2.out] at h2
            rw [txt_size]
            simp only [List.length_append] at h1 h2 ⊢
            omega)
          have HB9 := hidS bq9
          have HF9 := hidS fq9
          have HI9 := hidS hit9
          have HX9 := hidS xq9
          have HNB : Hid (N ≠ B) := fun e => by
            have h1 := HB9.out
            rw [e] at hit9
            rcases h1 with ⟨_, v, h2, _⟩ | ⟨_, v, h2, _⟩ <;> (rw [hit9] at h2; cases h2)
          have e0 := at_cells xq9 0 rfl
          have e1 := at_cells xq9 1 rfl
          have e2 := at_cells xq9 2 rfl
          have e3 := at_cells xq9 3 rfl
          have e4 := at_cells xq9 4 rfl
          have e5 := at_cells xq9 5 rfl
          have HDT := hidS (data_txt (fldL ⟨xop, xa, xb, xc, xk, xla, xlc, xl⟩ c))
          generalize txt (fldL ⟨xop, xa, xb, xc, xk, xla, xlc, xl⟩ c) = SF at *
          clear bq fq xq bq9 fq9 hit9 xq9 hit
          go_wp2_with (first
            | (go_at_call 30; with_reducible (refine C30.mono ?_); rintro e w10 ⟨rfl, f10⟩)
            | (go_at_call 27; with_reducible (refine (CW _ f10).mono ?_); rintro e w11 ⟨rfl, b11, k11⟩))
          rw [HDT.out, List.append_assoc, ← HTK2.out] at b11
          have hi11 := k11.keep N _ ((f10.block _ (Array.getElem?_eq_some_iff.1 HI9.out).1 (by simp)).trans HI9.out) (fun c z e => by cases e) HNB.out
          have hx11 := k11.keep k5 _ ((f10.block _ (Array.getElem?_eq_some_iff.1 HX9.out).1 (by simp)).trans HX9.out) (fun c z e => by cases e) HS5.out.1
          have hm11 : w11.iterPos N = pos + 1 := iterPos_of hi11
          go_roundw
          case rel => exact ⟨pos + 1, hlt2, hi11, b11, HF9.out.trans ((FB.ofFr f10 (by have := HB9.out.b; omega)).trans k11), hx11⟩
          case measure => rw [hmu, hm11]; omega
        · have hsz : ¬ pos < (txt FT).size := by rw [HSZ.out]; exact hlt2
          have hnx := fun ty => Lib.run_next_end_at (P := Tryd.prog) wr N (txt FT) pos ty hit hsz
          rw [List.take_of_length_le (by omega)] at bq
          have CW := write_any bq ⟨#[10]⟩ (by
            have h1 := HLT.out
            simp only [List.length_append] at h1 ⊢
            show _ + 1 ≤ _
            omega)
          have HFQ := hidS fq
          clear bq fq xq hit
          go_wp2_with (go_at_call 27; with_reducible (refine CW.mono ?_); rintro e w11 ⟨rfl, b11, k11⟩)
          rw [← HEQ.out] at b11
          go_roundw
          case rel => exact ⟨k + 1, hlt, by go_num, b11, HFQ.out.trans k11⟩
          case measure => simp [intOf]; omega
    · have hkI2 : ¬ (k : Int) < fcode.length := by omega
      rw [List.take_of_length_le (by omega), ← HSH.out] at bw
      have CS := Tryd.Builder_String_any B B (SHL) wr bw (by have := bw.b; omega)
      clear bw
      go_wp2_with (go_at_call 31; with_reducible (refine CS.mono ?_); rintro e w9 ⟨rfl, f9⟩)
      go_ret
      have hb9 := fw.low.trans f9
      exact ⟨by rw [HSE.out]; rfl, ⟨hb9.os.trans HF1.out.os, hb9.tape.trans HF1.out.tape, hb9.output.trans HF1.out.output, Nat.le_trans HF1.out.size hb9.size, fun j hj _ => (hb9.block j (by have := HBQ.out; omega)).trans (HF1.out.block j hj (by simp))⟩⟩
end Go.Proofs.YtdaealionicmjaaDoor
