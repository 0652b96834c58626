/-
  A field of an instruction as the program tells it; conditions: the instruction lies as told, its numbers are numbers, the library's table lies as its text lays it.
-/
import Derived.Test.YtdaealionicmjaaDoorSgB
namespace Go.Proofs.YtdaealionicmjaaDoor
open Go.RowKit
set_option linter.unusedVariables false
set_option linter.unusedSimpArgs false

theorem info9 : (Tryd.prog.info? 9).map (fun i => (i.zero, i.size, i.bytes)) = some (some (.string ⟨#[]⟩), 1, 16) := by kernel_rfl
theorem one_newS (W : World) (z : ByteArray) : ∀ j u, [Value.string z][j]? = some u → (W.alloc (.cells #[.string z] 9)).cell? ((⟨W.heap.size, 0, none⟩ : Addr).add j) = some u := by
  intro j u hu
  have hadd : (⟨W.heap.size, 0, none⟩ : Addr).add j = ⟨W.heap.size, j, none⟩ := by unfold Addr.add; split <;> simp_all
  rw [hadd]
  exact at_cells (heap_alloc_new W _) j (by simpa using hu)
/-- A row of texts of one's own. -/
def OT (w : World) (base : Nat) (v : Value) (T : List (List UInt8)) : Prop := w.ownsRow base 9 1 v T.length (T.map (fun t => Value.string (txt t)))
theorem OT.slice {w : World} {base : Nat} {v : Value} {T : List (List UInt8)} (h : OT w base v T) : ∃ a c, v = .slice a T.length c ∧ T.length ≤ c ∧ (a = none → T.length = 0) := by
  rcases h.2 with ⟨e1, e2⟩ | ⟨g, cap, cur, e1, _, _, hc, _⟩
  · exact ⟨none, 0, by rw [e1, e2], by omega, fun _ => e2⟩
  · exact ⟨_, cap, e1, hc, fun h => by cases h⟩

set_option maxRecDepth 100000 in
set_option maxHeartbeats 4000000 in
theorem joined_any {w : World} {base : Nat} {v : Value} {T : List (List UInt8)} (h : OT w base v T) (hT : T.length ≤ 2000000) (hl : (Lib.join T [44]).length ≤ 1000000000000) :
    Calls Tryd.prog 46 #[v, .string ⟨#[44]⟩] w fun e w' => e = .returned (.string (txt (Lib.join T [44]))) ∧ Fr [] w w' := by
  rcases h.2 with ⟨e1, e2⟩ | ⟨g, cap, cur, e1, hbg, hgg, hc, _⟩
  · have : T = [] := List.eq_nil_of_length_eq_zero e2
    subst this
    rw [e1]
    refine (Tryd.strings_Join_none none 0 _ w).mono ?_
    rintro e w' ⟨rfl, rfl⟩
    exact ⟨rfl, Fr.refl _ _⟩
  · rw [e1]
    have hcells := h.cells (g := g) (by rw [e1]; rfl)
    have e3 : (T.map txt).map (fun x => x.data.toList) = T := by rw [List.map_map]; simp [Function.comp_def, data_txt]
    have := Tryd.strings_Join g 0 cap (T.map txt) ⟨#[44]⟩ w (fun j x hx => by
      have := hcells j (.string x) (by
        rw [List.getElem?_map] at hx ⊢
        cases ht : T[j]? with
        | none => rw [ht] at hx; cases hx
        | some t => rw [ht] at hx; injection hx with hx; subst hx; rfl)
      rw [Addr.add_lit] at this
      exact this) ((Array.getElem?_eq_some_iff.1 hgg).1) (by simp; omega) (by simpa using hc) (by rw [e3]; simpa using Nat.le_trans hl (by decide))
    rw [e3] at this
    simp only [List.length_map] at this
    refine this.mono ?_
    rintro e w' ⟨rfl, hb⟩
    exact ⟨rfl, Fr.ofBelow hb⟩

set_option maxRecDepth 100000 in
set_option maxHeartbeats 8000000 in
theorem shown_any {B : Nat} {w : World} {x : In} (hx : InOk B w x) (hB : B ≤ w.heap.size) (hw : WfIn x) (P : Pw w) (hl : x.l.length ≤ 2000000) (c : Nat) (hc : c = 65 ∨ c = 66 ∨ c = 67 ∨ c = 99 ∨ c = 75 ∨ c = 76) :
    Calls Tryd.prog 30 #[.agg x.arr, .int .i32 c] w fun e w' => e = .returned (.string (txt (fldL x c))) ∧ Fr [] w w' := by
  have F0 : Fr [] w (w.alloc (.cells x.arr 39)) := (Fr.refl _ _).alloc _
  have bx := heap_alloc_new w (.cells x.arr 39)
  have HP : Hid (∀ w', Fr [] w w' → Pw w') := fun w' f => P.fr f (by simp)
  have HK : Hid (∀ w', Fr [] w w' → KAt B w' x.la x.l) := fun w' f => hx.k.fr f (by simp)
  have HW := hidS hw
  have hln := hx.kn
  have hla := itoa_len hw.a
  have hlb := itoa_len hw.b
  have hlc := itoa_len hw.c
  have hlk := itoa_len hw.k
  have HJ := hidS (joinB_len hw.l)
  have HPW := HP.out _ F0
  have CA := itoa_any x.a hw.a _ HPW
  have CB := itoa_any x.b hw.b _ HPW
  have CC := itoa_any x.c hw.c _ HPW
  have CK := format_any x.k hw.k _ HPW
  obtain ⟨xop, xa, xb, xc, xk, xla, xlc, xl⟩ := x
  unfold In.arr at *
  simp only at *
  have hlI : (xl.length : Int) ≤ 2000000 := by omega
  have cat : ∀ (a : Array UInt8) (t : List UInt8), (⟨a⟩ : ByteArray) ++ txt t = txt (a.toList ++ t) := fun a t => by rw [lit_txt a, cat_txt]
  have hsz : ∀ t : List UInt8, (txt t).size = t.length := fun t => txt_size t
  have sa := hsz (Lib.itoa xa)
  have sb := hsz (Lib.itoa xb)
  have sc := hsz (Lib.itoa xc)
  have sk := hsz (Lib.itoa xk)
  rcases hc with rfl | rfl | rfl | rfl | rfl | rfl
  · have HV : Hid (txt (fldL ⟨xop, xa, xb, xc, xk, xla, xlc, xl⟩ 65) = ⟨#[32, 65, 61]⟩ ++ txt (Lib.itoa xa)) := by unfold Hid; rw [cat]; rfl
    clear CB CC CK HPW cat hsz bx
    generalize txt (Lib.itoa xa) = S at *
    go_enter Tryd.func30, Tryd.ntmps30
    go_wp2_with (go_at_call 28; with_reducible (refine CA.mono ?_); rintro e w1 ⟨rfl, f1⟩)
    go_ret
    exact ⟨by rw [HV.out]; rfl, F0.trans f1⟩
  · have HV : Hid (txt (fldL ⟨xop, xa, xb, xc, xk, xla, xlc, xl⟩ 66) = ⟨#[32, 66, 61]⟩ ++ txt (Lib.itoa xb)) := by unfold Hid; rw [cat]; rfl
    clear CA CC CK HPW cat hsz bx
    generalize txt (Lib.itoa xb) = S at *
    go_enter Tryd.func30, Tryd.ntmps30
    go_wp2_with (go_at_call 28; with_reducible (refine CB.mono ?_); rintro e w1 ⟨rfl, f1⟩)
    go_ret
    exact ⟨by rw [HV.out]; rfl, F0.trans f1⟩
  · have HV : Hid (txt (fldL ⟨xop, xa, xb, xc, xk, xla, xlc, xl⟩ 67) = ⟨#[32, 67, 61]⟩ ++ txt (Lib.itoa xc)) := by unfold Hid; rw [cat]; rfl
    clear CA CB CK HPW cat hsz bx
    generalize txt (Lib.itoa xc) = S at *
    go_enter Tryd.func30, Tryd.ntmps30
    go_wp2_with (go_at_call 28; with_reducible (refine CC.mono ?_); rintro e w1 ⟨rfl, f1⟩)
    go_ret
    exact ⟨by rw [HV.out]; rfl, F0.trans f1⟩
  · have HV : Hid (txt (fldL ⟨xop, xa, xb, xc, xk, xla, xlc, xl⟩ 99) = ⟨#[32, 67, 61]⟩ ++ txt (Lib.itoa xc)) := by unfold Hid; rw [cat]; rfl
    clear CA CB CK HPW cat hsz bx
    generalize txt (Lib.itoa xc) = S at *
    go_enter Tryd.func30, Tryd.ntmps30
    go_wp2_with (go_at_call 28; with_reducible (refine CC.mono ?_); rintro e w1 ⟨rfl, f1⟩)
    go_ret
    exact ⟨by rw [HV.out]; rfl, F0.trans f1⟩
  · have HV : Hid (txt (fldL ⟨xop, xa, xb, xc, xk, xla, xlc, xl⟩ 75) = ⟨#[32, 75, 61]⟩ ++ txt (Lib.itoa xk)) := by unfold Hid; rw [cat]; rfl
    clear CA CB CC HPW cat hsz bx
    generalize txt (Lib.itoa xk) = S at *
    go_enter Tryd.func30, Tryd.ntmps30
    go_wp2_with (go_at_call 33; with_reducible (refine CK.mono ?_); rintro e w1 ⟨rfl, f1⟩)
    go_ret
    exact ⟨by rw [HV.out]; rfl, F0.trans f1⟩
  · have HV : Hid (txt (fldL ⟨xop, xa, xb, xc, xk, xla, xlc, xl⟩ 76) = ⟨#[32, 76, 61]⟩ ++ txt (joinB xl)) := by unfold Hid; rw [cat]; rfl
    obtain ⟨i9, hi, hz, hz1, hby⟩ := info_parts info9
    rw [show ((76 : Nat) : Int) = 76 from rfl]
    have x5 : (w.alloc (.cells #[.int .i64 xop, .int .i64 xa, .int .i64 xb, .int .i64 xc, .int .i64 xk, .slice xla xl.length xlc] 39)).cell? ⟨w.heap.size, 5, none⟩ = some (.slice xla xl.length xlc) := at_cells bx 5 rfl
    have HF0 := hidS F0
    have hs9 : Hid (w.heap.size ≤ (w.alloc (.cells #[.int .i64 xop, .int .i64 xa, .int .i64 xb, .int .i64 xc, .int .i64 xk, .slice xla xl.length xlc] 39)).heap.size) := F0.size
    clear CA CB CC CK HPW cat hsz bx sa sb sc sk hla hlb hlc hlk F0
    go_enter Tryd.func30, Tryd.ntmps30
    go_wp2
    clear x5
    generalize w.alloc (.cells #[.int .i64 xop, .int .i64 xa, .int .i64 xb, .int .i64 xc, .int .i64 xk, .slice xla xl.length xlc] 39) = W0 at *
    go_loopw [5, 7, 37] (fun v _ ix wr => ∃ p : Nat, p ≤ xl.length ∧ ix = .int .i64 p ∧ Fr [] w wr ∧ OT wr w.heap.size v ((xl.take p).map Lib.itoa)) (fun _ _ ix _ => xl.length - (intOf ix).toNat)
    case atStart => exact ⟨0, Nat.zero_le _, rfl, HF0.out, World.ownsRow_nil _ _ _ _⟩
    case round =>
      obtain ⟨p, hp, rfl, fw, ho⟩ := hrel
      have hsw : w.heap.size ≤ wr.heap.size := fw.size
      by_cases hlt : p < xl.length
      · have hpI : (p : Int) < xl.length := by omega
        have hz' : xl[p]? = some xl[p] := List.getElem?_eq_getElem hlt
        have HTK : Hid ((xl.take (p + 1)).map Lib.itoa = (xl.take p).map Lib.itoa ++ [Lib.itoa xl[p]]) := by unfold Hid; rw [List.take_add_one, hz', List.map_append]; rfl
        have hwz := HW.out.l xl[p] (List.getElem_mem _)
        generalize xl[p] = z at *
        obtain ⟨zb, zo, hza, _, zc⟩ := HK.out _ fw p z hz'
        subst hza
        have C28 := itoa_any z hwz _ (HP.out _ fw)
        have hTl : ((xl.take p).map Lib.itoa).length = p := by simp; omega
        generalize hS : txt (Lib.itoa z) = S at *
        have HS := hidS hS
        clear hz' hS
        obtain ⟨a5, c5, hv5, _⟩ := ho.slice
        subst hv5
        unfold OT at ho
        rw [hTl] at ho
        rw [hTl]
        have HTL := hidS hTl
        obtain ⟨K, hK⟩ : ∃ K, K = ((xl.take p).map Lib.itoa).map (fun t => Value.string (txt t)) := ⟨_, rfl⟩
        rw [← hK] at ho
        have HKK := hidS hK
        have HO := hidS ho
        clear hTl hK
        go_wp2_with (first
          | (go_at_call 28; with_reducible (refine C28.mono ?_); rintro e w1 ⟨rfl, f1⟩; have hs1 := f1.size)
          | (at_builtin; refine wpList_append_src _ rfl _ _ 78 rfl w.heap.size 9 i9 (.string ⟨#[]⟩) 1 16 Tryd.underlying78 hi hz hz1 hby rfl (by decide) (.slice a5 p c5) p K rfl ((own_fr HO.out f1 (by simp)).alloc _) (some ⟨w1.heap.size, 0, none⟩) 1 1 [.string S] rfl (by simp) (fun h => by cases h) (fun ad h => by cases h; exact one_newS w1 _) (by simp [Value.oneCell']) (by unfold maxLen; omega) (by omega) (by simp; omega) ?_))
        intro v3 w3 ho3 hg3 hl3
        have O3 : OT w3 w.heap.size v3 ((xl.take (p + 1)).map Lib.itoa) := by
          unfold OT
          rw [HTK.out]
          simp only [List.length_append, HTL.out, List.map_append, List.map_cons, List.map_nil, HS.out, List.length_cons, List.length_nil]
          rw [← HKK.out]
          exact ho3
        have F3 : Fr [] w w3 := Fr.grown ((fw.trans f1).alloc _) hg3 (fun k e => .inr (HO.out.lt k e).1)
        clear ho3 hg3 hl3 C28 ho
        go_wp2
        go_roundw
        case rel => exact ⟨p + 1, hlt, by go_num, F3, O3⟩
        case measure => simp [intOf]; omega
      · have hpI : ¬ (p : Int) < xl.length := by omega
        have hpe : p = xl.length := by omega
        subst hpe
        rw [List.take_of_length_le (Nat.le_refl _)] at ho
        have CJ := joined_any ho (by simpa using hl) (by have := HJ.out; unfold joinB at this; omega)
        obtain ⟨a5, c5, rfl, _⟩ := ho.slice
        have hjs : (txt (joinB xl)).size ≤ 44000000 := by rw [txt_size]; have := HJ.out; omega
        have e : Lib.join (xl.map Lib.itoa) [44] = joinB xl := rfl
        rw [e, List.length_map] at CJ
        rw [List.length_map]
        generalize txt (joinB xl) = S at *
        clear ho e
        go_wp2_with (go_at_call 46; with_reducible (refine CJ.mono ?_); rintro e w1 ⟨rfl, f1⟩)
        go_ret
        exact ⟨by rw [HV.out]; rfl, fw.trans f1⟩
end Go.Proofs.YtdaealionicmjaaDoor
