/-
  Which code the document takes; conditions: the code lies as told.
-/
import Derived.Test.YtdaealionicmjaaDoorChkE
import Derived.Test.YtdaealionicmjaaDoorIrU
import Derived.BigQuiet
import Derived.Deep.RegionHeldLaw
namespace Go.Proofs.YtdaealionicmjaaDoor
open Go.RowKit
set_option linter.unusedVariables false
set_option linter.unusedSimpArgs false

theorem hidF {p : Prop} (h : p) : Hid p := h
/-- A row of numbers of 64 bits of one's own, that grows. -/
def OM (w : World) (base : Nat) (v : Value) (K : List Int) : Prop := w.ownsRow base 2 1 v K.length (K.map (Value.int .i64))
theorem OM.nil (w : World) (base : Nat) : OM w base (.slice none 0 0) [] := World.ownsRow_nil _ _ _ _
theorem OM.fr {w w' : World} {base : Nat} {v : Value} {K : List Int} {S : List Nat} (h : OM w base v K) (f : Fr S w w') (hS : ∀ k, k ∈ S → k < base) : OM w' base v K := by
  obtain ⟨h1, h2⟩ := h
  refine ⟨h1, ?_⟩
  rcases h2 with h2 | ⟨g, cap, cur, e, hb, hg, r⟩
  · exact .inl h2
  · exact .inr ⟨g, cap, cur, e, hb, (f.block g (Array.getElem?_eq_some_iff.1 hg).1 (fun hm => by have := hS g hm; omega)).trans hg, r⟩
theorem OM.slice {w : World} {base : Nat} {v : Value} {K : List Int} (h : OM w base v K) : ∃ a c, v = .slice a K.length c ∧ K.length ≤ c ∧ (a = none → c = 0) := by
  obtain ⟨h1, h2⟩ := h
  rcases h2 with ⟨e, h0⟩ | ⟨g, cap, cur, e, hb, hg, hc, _⟩
  · exact ⟨none, 0, by rw [h0]; exact e, by omega, fun _ => rfl⟩
  · exact ⟨_, cap, e, hc, fun h => by cases h⟩
theorem OM.kat {w : World} {base : Nat} {a : Option Addr} {n c : Nat} {K : List Int} (h : OM w base (.slice a n c) K) : KAt w.heap.size w a K := fun j k hj => by
  have hlt := (List.getElem?_eq_some_iff.1 hj).1
  obtain ⟨h1, h2⟩ := h
  rcases h2 with ⟨e, h0⟩ | ⟨g, cap, cur, e, hb, hg, hc, hm, hs, ht⟩
  · omega
  · injection e with e1 e2 e3
    subst e1
    have hcell : cur.toList[j]? = some (.int .i64 k) := by
      have : (cur.toList.take (K.length * 1))[j]? = (K.map (Value.int .i64))[j]? := by rw [ht]
      rw [List.getElem?_take_of_lt (by omega)] at this
      rw [this]
      simp [hj]
    refine ⟨g, 0, rfl, (Array.getElem?_eq_some_iff.1 hg).1, ?_⟩
    simp only [World.cell?, hg, Nat.zero_add]
    simpa using hcell
theorem info2 : (Tryd.prog.info? 2).map (fun i => (i.zero, i.size, i.bytes)) = some (some (.int .i64 0), 1, 8) := by kernel_rfl
theorem one_newM (W : World) (z : Int) : ∀ j u, [Value.int .i64 z][j]? = some u → (W.alloc (.cells #[.int .i64 z] 2)).cell? ((⟨W.heap.size, 0, none⟩ : Addr).add j) = some u := by
  intro j u hu
  have hadd : (⟨W.heap.size, 0, none⟩ : Addr).add j = ⟨W.heap.size, j, none⟩ := by unfold Addr.add; split <;> simp_all
  rw [hadd]
  exact at_cells (heap_alloc_new W _) j (by simpa using hu)

set_option maxRecDepth 100000 in
set_option maxHeartbeats 8000000 in
theorem rcheck_any {B : Nat} {w : World} {F : List Fu} {fa : Option Addr} {len : Nat} {mg : Int} (cap : Nat) (mn : Int) (h : CdOk B w F fa len mg) (hB : B ≤ w.heap.size) :
    Calls Tryd.prog 11 #[.agg #[.slice fa len cap, .int .i64 mn, .int .i64 mg]] w fun e w' => e = cEnd (checkR F mn mg) ∧ Fr [] w w' := by
  obtain ⟨i2, hi, hz, hz1, hby⟩ := info_parts info2
  have F0 : Fr [] w (w.alloc (.cells #[.slice fa len cap, .int .i64 mn, .int .i64 mg] 24)) := (Fr.refl _ _).alloc _
  have bc := heap_alloc_new w (.cells #[.slice fa len cap, .int .i64 mn, .int .i64 mg] 24)
  have H := hidF h
  have HFA := hidF (h.at_.fr F0 (by simp))
  have HLN : Hid (F.length = len) := h.ln
  have HF0 := hidF F0
  have hlm := h.lm
  have hlI : (len : Int) ≤ 2000000000000 := by omega
  clear h F0
  go_enter Tryd.func11, Tryd.ntmps11
  go_upto_region 1 with fail
  generalize w.alloc (.cells #[.slice fa len cap, .int .i64 mn, .int .i64 mg] 24) = W0 at *
  have d0 : W0.cell? ⟨w.heap.size, 0, none⟩ = some (.slice fa len cap) := at_cells bc 0 rfl
  have d1 : W0.cell? ⟨w.heap.size, 1, none⟩ = some (.int .i64 mn) := at_cells bc 1 rfl
  have d2 : W0.cell? ⟨w.heap.size, 2, none⟩ = some (.int .i64 mg) := at_cells bc 2 rfl
  have BAD : Hid (¬ (0 ≤ mg ∧ (0 ≤ mn ∧ mn ≤ (F.length : Int) - 1) ∧ psAt F mn = 0) → checkR F mn mg = (0, 0, 100)) := fun hh => by unfold checkR wholeR; rw [if_neg hh]
  by_cases z0 : len = 0
  · subst z0
    have HN := hidF (BAD.out (fun hh => by have := HLN.out; omega))
    clear BAD
    go_wp2
    exact bodyPost_ret (results_tmp3 rfl _ _ _) rfl ⟨by rw [HN.out]; rfl, HF0.out⟩
  have z0' : ((len : Int) == 0) = false := beq_int_false (by omega)
  by_cases n0 : 0 ≤ mn
  rotate_left
  · have HN := hidF (BAD.out (fun hh => by omega))
    have n0' : mn < 0 := by omega
    clear BAD
    go_wp2
    exact bodyPost_ret (results_tmp3 rfl _ _ _) rfl ⟨by rw [HN.out]; rfl, HF0.out⟩
  by_cases n1 : mn < (len : Int)
  rotate_left
  · have HN := hidF (BAD.out (fun hh => by have := HLN.out; omega))
    have n1' : (len : Int) ≤ mn := by omega
    clear BAD
    go_wp2
    exact bodyPost_ret (results_tmp3 rfl _ _ _) rfl ⟨by rw [HN.out]; rfl, HF0.out⟩
  obtain ⟨q, rfl⟩ := Int.eq_ofNat_of_zero_le n0
  have n1n : q < len := by omega
  have hq : q < F.length := by have := HLN.out; omega
  have hg : F[q]? = some F[q] := List.getElem?_eq_getElem hq
  have hps : psAt F (q : Int) = (F[q]).ps := by unfold psAt; rw [Int.toNat_natCast, hg]
  generalize F[q] = g at *
  obtain ⟨gb, go, hfa, hgb, hgc⟩ := HFA.out q g hg
  have g1 := hgc.c1
  subst hfa
  have HPS := hidF hps
  clear hgc hq hg hps
  by_cases p0 : g.ps = 0
  rotate_left
  · have HN := hidF (BAD.out (fun hh => by have := HPS.out; omega))
    have p0' : (g.ps != 0) = true := by simpa using p0
    clear BAD
    go_wp2
    exact bodyPost_ret (results_tmp3 rfl _ _ _) rfl ⟨by rw [HN.out]; rfl, HF0.out⟩
  rw [p0] at g1
  by_cases m0 : 0 ≤ mg
  rotate_left
  · have HN := hidF (BAD.out (fun hh => by omega))
    have m0' : mg < 0 := by omega
    clear BAD
    go_wp2
    exact bodyPost_ret (results_tmp3 rfl _ _ _) rfl ⟨by rw [HN.out]; rfl, HF0.out⟩
  have m0' : ¬ mg < 0 := by omega
  have HW : Hid (checkR F (q : Int) mg = match funsR F mg F 0 [] with | .ok _ => (0, 0, 0) | .error (a, b) => (a, b, 100)) := by
    unfold Hid checkR wholeR
    rw [if_pos ⟨m0, ⟨n0, by have := HLN.out; omega⟩, by rw [HPS.out, p0]⟩]
    rfl
  have HFS := hidF H.out.ok
  have HTC := hidF H.out.ok.tot
  clear BAD n0 n1 m0 HPS hgb
  go_wp2
  clear g1 d0 d1 d2 p0 m0'
  go_loopw [5, 6, 7, 8, 9, 45] (fun sv _ _ _ _ ix wr => ∃ (n : Nat) (s : List Int), n ≤ len ∧ ix = .int .i64 n ∧ OM wr W0.heap.size sv s ∧ Fr [] W0 wr ∧ Hid (s.length + totC (F.drop n) ≤ 8000000000000) ∧ Hid (funsR F mg (F.drop n) n s = funsR F mg F 0 [])) (fun _ _ _ _ _ ix _ => len - (intOf ix).toNat)
  case atStart => exact ⟨0, [], Nat.zero_le _, rfl, OM.nil _ _, Fr.refl _ _, by have := HTC.out; simpa [Hid] using this, rfl⟩
  case round =>
    obtain ⟨n, s, hn, rfl, ho, fw, hsz, hfr⟩ := hrel
    by_cases hlt : n < len
    · have hlt' : n < F.length := by rw [HLN.out]; exact hlt
      have hx : F[n]? = some F[n] := List.getElem?_eq_getElem hlt'
      have HDR : Hid (F.drop n = F[n] :: F.drop (n + 1)) := List.drop_eq_getElem_cons hlt'
      have HTD := hidF (totC_drop hx)
      generalize F[n] = f at *
      obtain ⟨b', o', e', hb, hI0⟩ := HFA.out n f hx
      cases e'
      obtain ⟨q0, q1, q2, q3, ok⟩ := hI0.fr fw hb (by simp)
      have HOK := hidF hI0.ok
      have hcl := ok.kl
      have hclI : (f.code.length : Int) ≤ 20000000000000 := by omega
      have hnI : (n : Int) < len := by omega
      have HFD : Hid (funsR F mg F 0 [] = match funR F mg f s with | .error p => .error (n, p) | .ok t => funsR F mg (F.drop (n + 1)) (n + 1) t) := by
        unfold Hid
        rw [← hfr.out, HDR.out]
        rfl
      have F1 : Fr [] wr (wr.alloc (.cells f.arr 34)) := (Fr.refl _ _).alloc _
      have bF := heap_alloc_new wr (.cells f.arr 34)
      have ho1 := ho.fr F1 (by simp)
      have G1 := fw.trans F1
      have HF1 := hidF (HF0.out.trans G1)
      have HK7 : Hid (W0.heap.size ≤ wr.heap.size) := fw.size
      clear ok hI0 ho fw F1 hfr hx hlt'
      unfold Fu.arr at *
      by_cases h0 : 0 ≤ f.ps
      rotate_left
      · have HN : Hid (checkR F (q : Int) mg = (n, 0, 100)) := by unfold Hid; rw [HW.out, HFD.out]; unfold funR; rw [if_neg (by omega)]
        have h0' : f.ps < 0 := by omega
        clear HFD HW ho1
        go_wp2
        exact bodyPost_ret (results_tmp3 rfl _ _ _) rfl ⟨by rw [HN.out]; rfl, HF1.out⟩
      have h0' : ¬ f.ps < 0 := by omega
      by_cases h1 : f.ps ≤ f.rs
      rotate_left
      · have HN : Hid (checkR F (q : Int) mg = (n, 0, 100)) := by unfold Hid; rw [HW.out, HFD.out]; unfold funR; rw [if_neg (by omega)]
        have h1' : f.rs < f.ps := by omega
        clear HFD HW ho1
        go_wp2
        exact bodyPost_ret (results_tmp3 rfl _ _ _) rfl ⟨by rw [HN.out]; rfl, HF1.out⟩
      have h1' : ¬ f.rs < f.ps := by omega
      by_cases h2 : f.rs ≤ 1000
      rotate_left
      · have HN : Hid (checkR F (q : Int) mg = (n, 0, 100)) := by unfold Hid; rw [HW.out, HFD.out]; unfold funR; rw [if_neg (by omega)]
        have h2' : 1000 < f.rs := by omega
        clear HFD HW ho1
        go_wp2
        exact bodyPost_ret (results_tmp3 rfl _ _ _) rfl ⟨by rw [HN.out]; rfl, HF1.out⟩
      have h2' : ¬ 1000 < f.rs := by omega
      by_cases h3 : 1 ≤ f.code.length
      rotate_left
      · have HN : Hid (checkR F (q : Int) mg = (n, 0, 100)) := by unfold Hid; rw [HW.out, HFD.out]; unfold funR; rw [if_neg (by omega)]
        have h3' : ((f.code.length : Int) == 0) = true := beq_iff_eq.2 (by omega)
        clear HFD HW ho1
        go_wp2
        exact bodyPost_ret (results_tmp3 rfl _ _ _) rfl ⟨by rw [HN.out]; rfl, HF1.out⟩
      have h3' : ((f.code.length : Int) == 0) = false := beq_int_false (by omega)
      by_cases h4 : f.code.length ≤ 100000
      rotate_left
      · have HN : Hid (checkR F (q : Int) mg = (n, 0, 100)) := by unfold Hid; rw [HW.out, HFD.out]; unfold funR; rw [if_neg (by omega)]
        have h4' : (100000 : Int) < f.code.length := by omega
        clear HFD HW ho1
        go_wp2
        exact bodyPost_ret (results_tmp3 rfl _ _ _) rfl ⟨by rw [HN.out]; rfl, HF1.out⟩
      have h4' : ¬ (100000 : Int) < f.code.length := by omega
      have HFE : Hid (funR F mg f s = codeR F mg f f.code 0 s) := by unfold Hid funR; rw [if_pos ⟨h0, h1, h2, h3, h4⟩]
      have HBW : Hid (B ≤ wr.heap.size) := by have := HF0.out.size; have := HK7.out; unfold Hid; omega
      clear h0 h1 h2 h3 h4
      go_wp2
      clear q0 q1 q2 q3 h0' h1' h2' h3' h4'
      generalize hk7 : wr.heap.size = k7 at *
      generalize wr.alloc (.cells #[.string f.name, .int .i64 f.ps, .int .i64 f.rs, .slice f.ca f.code.length f.cc] 34) = W1 at *
      go_loopw [5, 8, 9, 81] (fun sv _ _ ix wq => ∃ (p : Nat) (t : List Int), p ≤ f.code.length ∧ ix = .int .i64 p ∧ OM wq W0.heap.size sv t ∧ Fr [] W0 wq ∧ wq.heap[k7]? = some (.cells #[.string f.name, .int .i64 f.ps, .int .i64 f.rs, .slice f.ca f.code.length f.cc] 34 (0, 0)) ∧ Hid (t.length + (f.code.length - p) + totC (F.drop (n + 1)) ≤ 8000000000000) ∧ Hid (codeR F mg f (f.code.drop p) p t = codeR F mg f f.code 0 s)) (fun _ _ _ ix _ => f.code.length - (intOf ix).toNat)
      case atStart => exact ⟨0, s, Nat.zero_le _, rfl, ho1, G1, bF, by have h1 := HTD.out; have h2 := hsz.out; unfold Hid; omega, rfl⟩
      case round =>
        clear ho1 G1 bF HF1
        obtain ⟨p, t, hp, rfl, ho, fq, bF, hsz2, hco⟩ := hrel
        have HFQ := hidF (HF0.out.trans fq)
        by_cases hpt : p < f.code.length
        · have hx : f.code[p]? = some f.code[p] := List.getElem?_eq_getElem hpt
          have HCD : Hid (f.code.drop p = f.code[p] :: f.code.drop (p + 1)) := List.drop_eq_getElem_cons hpt
          have HHX := hidF hx
          generalize f.code[p] = x at *
          obtain ⟨b2, o2, hca, hb2, hI2⟩ := (HOK.out.fr fq (by simp)).k p x hx
          obtain ⟨c0, c1, c2, c3, c4, c5, okx⟩ := hI2
          have hpI : (p : Int) < f.code.length := by omega
          have C25 := fun w' (g : Fr [] W0 w') => rins_any B w' F (some ⟨gb, go, none⟩) len cap (q : Int) mg f x p HHX.out (HOK.out.fr g (by simp)) (HFA.out.fr g (by simp)) HLN.out (by omega)
          have HCA := hidF hca
          clear hca
          have y0 : wr.cell? ⟨k7, 0, none⟩ = some (.string f.name) := at_cells bF 0 rfl
          have y1 : wr.cell? ⟨k7, 1, none⟩ = some (.int .i64 f.ps) := at_cells bF 1 rfl
          have y2 : wr.cell? ⟨k7, 2, none⟩ = some (.int .i64 f.rs) := at_cells bF 2 rfl
          have y3 : wr.cell? ⟨k7, 3, none⟩ = some (.slice f.ca f.code.length f.cc) := at_cells bF 3 rfl
          have HCR : Hid (codeR F mg f (f.code.drop p) p t = if insR F mg f p x && !(x.op == 27 && heldL t x.k) then codeR F mg f (f.code.drop (p + 1)) (p + 1) (if x.op = 27 then t ++ [x.k] else t) else .error p) := by unfold Hid; rw [HCD.out]; rfl
          have HER : Hid (codeR F mg f (f.code.drop p) p t = .error p → checkR F (q : Int) mg = (n, p, 100)) := fun hh => by rw [HW.out, HFD.out, HFE.out, ← hco.out, hh]
          have hxl := okx.kl
          clear hx HCD
          unfold Fu.arr at C25
          obtain ⟨xop, xa, xb, xc, xk, xla, xlc, xl⟩ := x
          simp only at *
          rw [HCA.out] at y3 C25
          have G2 : Fr [] wr (wr.alloc (.cells #[.int .i64 xop, .int .i64 xa, .int .i64 xb, .int .i64 xc, .int .i64 xk, .slice xla xl.length xlc] 39)) := (Fr.refl _ _).alloc _
          have bX := heap_alloc_new wr (.cells #[.int .i64 xop, .int .i64 xa, .int .i64 xb, .int .i64 xc, .int .i64 xk, .slice xla xl.length xlc] 39)
          have nk : k7 < wr.heap.size := (Array.getElem?_eq_some_iff.1 bF).1
          have nkne : k7 ≠ wr.heap.size := by omega
          have nb2 : b2 ≠ wr.heap.size := by have := World.block_lt_of_cell? wr _ c0; simp only at this; omega
          have BK := (G2.block _ nk (by simp)).trans bF
          have HO2 := hidF (ho.fr G2 (by simp))
          have HFQ2 := hidF (fq.trans G2)
          have HNE : Hid (u5.ownBlock ≠ some k7) := own_ne ho bF (by decide)
          clear ho okx
          go_upto_region 13 with fail
          clear c0 c1 c2 c3 c4 c5 y0 y1 y2 y3 nb2 nk
          generalize hk9 : wr.heap.size = k9 at *
          generalize wr.alloc (.cells #[.int .i64 xop, .int .i64 xa, .int .i64 xb, .int .i64 xc, .int .i64 xk, .slice xla xl.length xlc] 39) = W2 at *
          have HBX := hidF bX
          have HBK := hidF BK
          have hkc : W0.heap[w.heap.size]? = some (.cells #[.slice (some ⟨gb, go, none⟩) len cap, .int .i64 q, .int .i64 mg] 24 (0, 0)) := bc
          have BC := (HFQ2.out.block _ (Array.getElem?_eq_some_iff.1 hkc).1 (by simp)).trans hkc
          have HBC := hidF BC
          have d0 : ∀ w', Fr [] W2 w' → w'.cell? ⟨w.heap.size, 0, none⟩ = some (.slice (some ⟨gb, go, none⟩) len cap) := fun w' f => f.cell1 (at_cells HBC.out 0 rfl) (by simp)
          have d1 : ∀ w', Fr [] W2 w' → w'.cell? ⟨w.heap.size, 1, none⟩ = some (.int .i64 q) := fun w' f => f.cell1 (at_cells HBC.out 1 rfl) (by simp)
          have d2 : ∀ w', Fr [] W2 w' → w'.cell? ⟨w.heap.size, 2, none⟩ = some (.int .i64 mg) := fun w' f => f.cell1 (at_cells HBC.out 2 rfl) (by simp)
          have y0 : ∀ w', Fr [] W2 w' → w'.cell? ⟨k7, 0, none⟩ = some (.string f.name) := fun w' f => f.cell1 (at_cells HBK.out 0 rfl) (by simp)
          have y1 : ∀ w', Fr [] W2 w' → w'.cell? ⟨k7, 1, none⟩ = some (.int .i64 f.ps) := fun w' f => f.cell1 (at_cells HBK.out 1 rfl) (by simp)
          have y2 : ∀ w', Fr [] W2 w' → w'.cell? ⟨k7, 2, none⟩ = some (.int .i64 f.rs) := fun w' f => f.cell1 (at_cells HBK.out 2 rfl) (by simp)
          have y3 : ∀ w', Fr [] W2 w' → w'.cell? ⟨k7, 3, none⟩ = some (.slice f.ca f.code.length f.cc) := fun w' f => f.cell1 (at_cells HBK.out 3 rfl) (by simp)
          have z0 : ∀ w', Fr [] W2 w' → w'.cell? ⟨k9, 0, none⟩ = some (.int .i64 xop) := fun w' f => f.cell1 (at_cells HBX.out 0 rfl) (by simp)
          have z4 : ∀ w', Fr [] W2 w' → w'.cell? ⟨k9, 4, none⟩ = some (.int .i64 xk) := fun w' f => f.cell1 (at_cells HBX.out 4 rfl) (by simp)
          rw [HCA.out] at y3
          have RF : Fr [] W2 W2 := Fr.refl _ _
          have C2 := C25 W2 HFQ2.out
          clear C25 bX BK BC hkc
          obtain ⟨a5, c5, hv5, hlc5, hn5⟩ := HO2.out.slice
          subst hv5
          have htl : t.length ≤ 8000000000000 := by have := hsz2.out; omega
          have htI : (t.length : Int) ≤ 8000000000000 := by omega
          cases hv : insR F mg f p ⟨xop, xa, xb, xc, xk, xla, xlc, xl⟩ with
          | false =>
            rw [hv] at C2
            have HN : Hid (checkR F (q : Int) mg = (n, p, 100)) := HER.out (by rw [HCR.out, hv]; rfl)
            clear HCR HER hco HFD HFE HW
            go_wp2_with (go_at_call 25; with_reducible (refine C2.mono ?_); rintro e w3 ⟨rfl, f3⟩)
            exact bodyPost_ret (results_tmp3 rfl _ _ _) rfl ⟨by rw [HN.out]; rfl, (HF0.out.trans HFQ2.out).trans f3⟩
          | true =>
            rw [hv] at C2
            by_cases h27 : xop = 27
            · subst h27
              have C3 := fun w' (g : Fr [] W2 w') => held_any w'.heap.size w' t a5 t.length c5 xk rfl (by unfold maxLen; omega) (HO2.out.fr g (by simp)).kat
              cases hh : heldL t xk with
              | true =>
                rw [hh] at C3
                have HN : Hid (checkR F (q : Int) mg = (n, p, 100)) := HER.out (by rw [HCR.out, hv, hh]; rfl)
                clear HCR HER hco HFD HFE HW
                go_wp2_with (first | (go_at_call 25; with_reducible (refine C2.mono ?_); rintro e w3 ⟨rfl, f3⟩) | (go_at_call 26; with_reducible (refine (C3 _ f3).mono ?_); rintro e w4 ⟨rfl, f4⟩))
                exact bodyPost_ret (results_tmp3 rfl _ _ _) rfl ⟨by rw [HN.out]; rfl, ((HF0.out.trans HFQ2.out).trans f3).trans f4⟩
              | false =>
                rw [hh] at C3
                have HCN : Hid (codeR F mg f (f.code.drop (p + 1)) (p + 1) (t ++ [xk]) = codeR F mg f f.code 0 s) := by unfold Hid; rw [← hco.out, HCR.out, hv, hh]; rfl
                clear HCR HER hco HFD HFE HW
                go_upto_region 16 with (first | (go_at_call 25; with_reducible (refine C2.mono ?_); rintro e w3 ⟨rfl, f3⟩) | (go_at_call 26; with_reducible (refine (C3 _ f3).mono ?_); rintro e w4 ⟨rfl, f4⟩; have f4' := f3.trans f4))
                have HO4 := HO2.out.fr f4' (by simp)
                have F4 := HFQ2.out.trans f4'
                have hs4 : W0.heap.size ≤ w4.heap.size := F4.size
                have z4w := z4 _ f4'
                have B4 := (f4'.block _ (Array.getElem?_eq_some_iff.1 HBK.out).1 (by simp)).trans HBK.out
                have HS9 : Hid ((t ++ [xk]).length + (f.code.length - (p + 1)) + totC (F.drop (n + 1)) ≤ 8000000000000) := by have := hsz2.out; unfold Hid; simp; omega
                clear hsz2 hsz C2 C3 d0 d1 d2 y0 y1 y2 y3 z0 z4 f3 f4
                unfold OM at HO4
                go_wp2_with (at_builtin; refine wpList_append_src _ rfl _ _ 48 rfl W0.heap.size 2 i2 (.int .i64 0) 1 8 Tryd.underlying48 hi hz hz1 hby rfl (by decide) (.slice a5 t.length c5) t.length (t.map (Value.int .i64)) rfl (HO4.alloc _) (some ⟨w4.heap.size, 0, none⟩) 1 1 [.int .i64 xk] rfl (by simp) (fun h => by cases h) (fun ad h => by cases h; exact one_newM w4 _) (by simp [Value.oneCell']) (by unfold maxLen; omega) (by omega) (by simp; omega) ?_)
                intro v3 w5 ho5 hg5 hl5
                have O5 : OM w5 W0.heap.size v3 (t ++ [xk]) := by unfold OM; simpa using ho5
                have F5 : Fr [] W0 w5 := Fr.grown (F4.alloc _) hg5 (fun k e => .inr (HO4.lt k e).1)
                have B5 := ((Fr.ofGrown hg5).block k7 (by have := (Array.getElem?_eq_some_iff.1 B4).1; simp; omega) (by simpa using HNE.out)).trans (keep_alloc (u := .cells #[.int .i64 xk] 2) B4)
                clear ho5 hg5 hl5 HO4
                go_wp2
                go_roundw
                case rel => exact ⟨p + 1, t ++ [xk], hpt, by go_num, O5, F5, B5, HS9, HCN⟩
                case measure => simp [intOf]; omega
            · have h27' : (xop == 27) = false := beq_int_false h27
              have HCN : Hid (codeR F mg f (f.code.drop (p + 1)) (p + 1) t = codeR F mg f f.code 0 s) := by unfold Hid; rw [← hco.out, HCR.out, hv]; simp [h27]
              clear HCR HER hco HFD HFE HW
              have HS9 : Hid (t.length + (f.code.length - (p + 1)) + totC (F.drop (n + 1)) ≤ 8000000000000) := by have := hsz2.out; unfold Hid; omega
              clear hsz2 hsz
              go_wp2_with (go_at_call 25; with_reducible (refine C2.mono ?_); rintro e w3 ⟨rfl, f3⟩)
              go_roundw
              case rel => exact ⟨p + 1, t, hpt, by go_num, HO2.out.fr f3 (by simp), HFQ2.out.trans f3, (f3.block _ (Array.getElem?_eq_some_iff.1 HBK.out).1 (by simp)).trans HBK.out, HS9, HCN⟩
              case measure => simp [intOf]; omega
        · have hpI : ¬ (p : Int) < f.code.length := by omega
          have HNX : Hid (funsR F mg (F.drop (n + 1)) (n + 1) t = funsR F mg F 0 []) := by
            unfold Hid
            rw [HFD.out, HFE.out, ← hco.out, (List.drop_eq_nil_iff.2 (by omega) : f.code.drop p = [])]
            rfl
          have HS3 : Hid (t.length + totC (F.drop (n + 1)) ≤ 8000000000000) := by have := hsz2.out; unfold Hid; omega
          clear hsz2 hco hsz HFD HFE
          go_wp2
          go_roundw
          case rel => exact ⟨n + 1, t, hlt, by go_num, ho, fq, HS3, HNX⟩
          case measure => simp [intOf]; omega
    · have hnI : ¬ (n : Int) < len := by omega
      have HN : Hid (checkR F (q : Int) mg = (0, 0, 0)) := by
        unfold Hid
        rw [HW.out, ← hfr.out, List.drop_eq_nil_iff.2 (by rw [HLN.out]; omega)]
        rfl
      have HFW := hidF (HF0.out.trans fw)
      clear ho
      go_wp2
      exact bodyPost_ret (results_tmp3 rfl _ _ _) rfl ⟨by rw [HN.out]; rfl, HFW.out⟩
end Go.Proofs.YtdaealionicmjaaDoor
