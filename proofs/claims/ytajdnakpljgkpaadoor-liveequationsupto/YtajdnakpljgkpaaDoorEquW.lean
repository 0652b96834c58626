/-
  What is live ahead of any instruction is what it reads and what is live ahead of the next ones, but for what it writes; condition: the tables lie as the program's text lays them.
-/
import Derived.Test.YtajdnakpljgkpaaDoorTabW
import Derived.Test.YtajdnakpljgkpaaDoorEqP
namespace Go.Proofs.YtajdnakpljgkpaaDoor
open Go.RowKit
set_option linter.unusedVariables false
set_option linter.unusedSimpArgs false

theorem LL.at3 {w : World} {base : Nat} {v : Value} {P : Nat → Pl} {N k : Nat} (h : LL w base v (tabL P N)) (hk : k < N) : ∃ g gc a c, v = .slice (some ⟨g, 0, none⟩) N gc ∧ g < w.heap.size ∧ w.cell? ⟨g, k, none⟩ = some (.slice a ((regsN (P k).s 16).map (fun r : Nat => (r : Int))).length c) ∧ KAt w.heap.size w a ((regsN (P k).s 16).map (fun r : Nat => (r : Int))) := by
  obtain ⟨g, gc, a, c, e, hc, ka, _⟩ := h.at (tabL_at P hk)
  rw [tabL_len] at e
  exact ⟨g, gc, a, c, e, World.block_lt_of_cell? w _ hc, hc, ka⟩

set_option maxRecDepth 100000 in
set_option maxHeartbeats 16000000 in
theorem liveEquations_walk (f : Fu) (w : World) (hf : FuOk w.heap.size w f) (hN : f.code.length ≤ 2000000) (hl : ∀ x ∈ f.code, x.l.length ≤ 8000000000000) (T : Tabs w) :
    Calls Tryd.prog 6 #[.agg f.arr] w fun e w' => e = .returned (.bool true) ∧ Fr [] w w' := by
  have HFU : Hid (FuOk w.heap.size w f) := hf
  have F0 : Fr [] w (w.alloc (.cells f.arr 24)) := (Fr.refl _ _).alloc _
  have bx : (w.alloc (.cells f.arr 24)).heap[w.heap.size]? = some (.cells f.arr 24 (0, 0)) := heap_alloc_new w _
  have HT : Hid (Tabs (w.alloc (.cells f.arr 24))) := T.fr F0 (by simp)
  have CA := awake_any _ HT.out
  have HF : Hid (Fr [] w (w.alloc (.cells f.arr 24))) := F0
  have hNI : (f.code.length : Int) ≤ 2000000 := by omega
  have HHL : Hid (∀ x ∈ f.code, x.l.length ≤ 8000000000000) := hl
  have HTW : Hid (Tabs w) := T
  have CF := fun (w' : World) (fr : Fr [] w w') => few_any w.heap.size f w' (hf.fr fr (by simp)) fr.size
  have CT := fun (w' : World) (fr : Fr [] w w') => tables_any w.heap.size f w' (hf.fr fr (by simp)) fr.size hN hl (HTW.out.fr fr (by simp))
  have CN := fun (d : Nat) (w' : World) (fr : Fr [] w w') => rnext_any w.heap.size f d w' (hf.fr fr (by simp)) fr.size
  obtain ⟨name, ps, rs, ca, cc, L⟩ := f
  unfold Fu.arr at *
  simp only at *
  generalize hn : L.length = N at *
  have HL : Hid (L.length = N) := hn
  clear hf T F0 hn hl
  go_enter Tryd.func6, Tryd.ntmps6
  go_wp2_with fail
  with_reducible (refine CA.mono ?_)
  rintro e W1 ⟨rfl, f1⟩
  have B1 := (f1.block _ (Array.getElem?_eq_some_iff.1 bx).1 (by simp)).trans bx
  have G1 : Hid (Fr [] w W1) := HF.out.trans f1
  have p0 : W1.cell? ⟨w.heap.size, 0, none⟩ = some _ := at_cells B1 0 rfl
  have p1 : W1.cell? ⟨w.heap.size, 1, none⟩ = some _ := at_cells B1 1 rfl
  have p2 : W1.cell? ⟨w.heap.size, 2, none⟩ = some _ := at_cells B1 2 rfl
  have p3 : W1.cell? ⟨w.heap.size, 3, none⟩ = some _ := at_cells B1 3 rfl
  have C8 := CF W1 G1.out
  clear CA f1 bx HT HF CF
  go_wp2_with fail
  with_reducible (refine C8.mono ?_)
  rintro e W2 ⟨⟨bv, rfl⟩, f2⟩
  have B2 : Hid (W2.heap[w.heap.size]? = some (.cells #[.string name, .int .i64 ps, .int .i64 rs, .slice ca N cc] 24 (0, 0))) := f2.at B1 (by simp)
  have HG : Hid (Fr [] w W2) := G1.out.trans f2
  clear C8 f2 B1 G1 p0 p1 p2 p3
  have p0 : W2.cell? ⟨w.heap.size, 0, none⟩ = some _ := at_cells B2.out 0 rfl
  have p1 : W2.cell? ⟨w.heap.size, 1, none⟩ = some _ := at_cells B2.out 1 rfl
  have p2 : W2.cell? ⟨w.heap.size, 2, none⟩ = some _ := at_cells B2.out 2 rfl
  have p3 : W2.cell? ⟨w.heap.size, 3, none⟩ = some _ := at_cells B2.out 3 rfl
  cases bv with
  | false =>
    clear CT CN p0 p1 p3
    go_wp2
    go_ret
    exact ⟨rfl, HG.out⟩
  | true =>
    by_cases h1 : rs < 1
    · clear CT CN p0 p1 p3
      go_wp2
      go_ret
      exact ⟨rfl, HG.out⟩
    · by_cases h2 : 1000 < rs
      · clear CT CN p0 p1 p3
        go_wp2
        go_ret
        exact ⟨rfl, HG.out⟩
      · obtain ⟨R, rfl⟩ : ∃ R : Nat, rs = (R : Int) := ⟨rs.toNat, by omega⟩
        have hR1 : 1 ≤ R := by omega
        have hRI : (R : Int) ≤ 1000 := by omega
        have CT' := CT W2 HG.out
        clear CT
        go_wp2_with fail
        with_reducible (refine CT'.mono ?_)
        rintro e W3 ⟨v3, P, rfl, hll, hle, f3⟩
        have HLL : Hid (LL W3 W2.heap.size v3 (tabL P N)) := hll
        have HLe : Hid (Least L R (fun i r => hasS (P i).s r = true)) := hle
        have HG3 : Hid (Fr [] w W3) := HG.out.trans f3
        have B3 : Hid (W3.heap[w.heap.size]? = some (.cells #[.string name, .int .i64 ps, .int .i64 R, .slice ca N cc] 24 (0, 0))) := f3.at B2.out (by simp)
        obtain ⟨ta, tc, hv3⟩ := hll.slice
        rw [tabL_len] at hv3
        subst hv3
        clear CT' p0 p1 p2 p3 hll hle f3 HG B2 h1 h2
        have p3 : W3.cell? ⟨w.heap.size, 3, none⟩ = some (.slice ca N cc) := at_cells B3.out 3 rfl
        have HCN : Hid (∀ (k r : Nat), k < N → (hasS (P k).s r = true) → r < R) := fun k r hk hr => by have := (HLe.out.cnt (by rw [HL.out]; exact hk) hr).2.1; omega
        go_wp2
        clear p3
        go_loopw [42] (fun i wr => ∃ d : Nat, d ≤ N ∧ i = .int .i64 d ∧ Hid (Fr [] W3 wr)) (fun i _ => N - (intOf i).toNat)
        case atStart => exact ⟨0, Nat.zero_le _, rfl, Fr.refl _ _⟩
        case round =>
          obtain ⟨a, ha, rfl, FX⟩ := hrel
          by_cases hap : a < N
          · have haI : (a : Int) < N := by omega
            have FW : Hid (Fr [] w wr) := HG3.out.trans FX.out
            have BW := FX.out.at B3.out (by simp)
            have hx : L[a]? = some (L[a]'(by rw [HL.out]; exact hap)) := List.getElem?_eq_getElem _
            generalize L[a]'(by rw [HL.out]; exact hap) = x at hx
            have HX : Hid (L[a]? = some x) := hx
            obtain ⟨b, o, rfl, hb, hI⟩ := (HFU.out.fr FW.out (by simp)).k a x hx
            have q0 := hI.c0
            have q1 := hI.c1
            have q2 := hI.c2
            have q3 := hI.c3
            have q4 := hI.c4
            have q5 := hI.c5
            have HXO : Hid (InOk w.heap.size w x) := by
              obtain ⟨b', o', _, _, hI'⟩ := HFU.out.k a x hx
              exact hI'.ok
            have HXL : Hid (x.l.length ≤ 8000000000000) := HHL.out x (List.mem_of_getElem? hx)
            have C21 := fun (w' : World) (fr : Fr [] w w') => rreads_any w.heap.size x w' (HXO.out.fr fr (by simp)) fr.size HXL.out
            have C20 := fun (w' : World) => rwrites_any x w'
            have C19 := fun (w' : World) (fr : Fr [] w w') => CN a w' fr
            rw [rwr_eq] at C20
            rw [rnext_same] at C19
            rw [show regsL x (rT x.op) = rdL x from rfl] at C21
            have HNX : Hid (∀ (j : Nat) (q : Int), (nextL L a)[j]? = some q → ∃ k : Nat, q = (k : Int) ∧ k < N) := fun j q hq => by
              obtain ⟨k, e, hk⟩ := next_in (List.mem_of_getElem? hq)
              rw [HL.out] at hk
              exact ⟨k, e, hk⟩
            have HNL : Hid ((nextL L a).length ≤ 2) := next_len L a
            have c2 : wr.cell? ⟨w.heap.size, 2, none⟩ = some (.int .i64 R) := at_cells BW 2 rfl
            clear hI hx
            unfold In.arr at C20 C21
            generalize hxo : x.op = xop at *
            generalize hxa : x.a = xa at *
            generalize hxb : x.b = xb at *
            generalize hxc : x.c = xc at *
            generalize hxk : x.k = xk at *
            generalize hxla : x.la = xla at *
            generalize hxl : x.l.length = xn at *
            generalize hxlc : x.lc = xlc at *
            clear hxo hxa hxb hxc hxk hxla hxl hxlc
            obtain ⟨M3, hmk3, row3⟩ := make_row (wr.alloc (.cells #[.int .i64 xop, .int .i64 xa, .int .i64 xb, .int .i64 xc, .int .i64 xk, .slice xla xn xlc] 59)) R (by omega)
            simp only [World.size_alloc] at hmk3 row3
            have c2' : (wr.alloc (.cells #[.int .i64 xop, .int .i64 xa, .int .i64 xb, .int .i64 xc, .int .i64 xk, .slice xla xn xlc] 59)).cell? ⟨w.heap.size, 2, none⟩ = some (.int .i64 R) := ((Fr.refl [] wr).alloc _).cell1 c2 (by simp)
            go_upto_region 12 with fail
            have g1 : Fr [] wr (wr.alloc (.cells #[.int .i64 xop, .int .i64 xa, .int .i64 xb, .int .i64 xc, .int .i64 xk, .slice xla xn xlc] 59)) := (Fr.refl _ _).alloc _
            have b8 := heap_alloc_new wr (.cells #[.int .i64 xop, .int .i64 xa, .int .i64 xb, .int .i64 xc, .int .i64 xk, .slice xla xn xlc] 59)
            have g2 : Fr [] (wr.alloc (.cells #[.int .i64 xop, .int .i64 xa, .int .i64 xb, .int .i64 xc, .int .i64 xk, .slice xla xn xlc] 59)) ((wr.alloc (.cells #[.int .i64 xop, .int .i64 xa, .int .i64 xb, .int .i64 xc, .int .i64 xk, .slice xla xn xlc] 59)).alloc (.cells M3 4)) := (Fr.refl _ _).alloc _
            have G2 := g1.trans g2
            have B8 := g2.at b8 (by simp)
            have HFX1 : Hid (Fr [] W3 ((wr.alloc (.cells #[.int .i64 xop, .int .i64 xa, .int .i64 xb, .int .i64 xc, .int .i64 xk, .slice xla xn xlc] 59)).alloc (.cells M3 4))) := FX.out.trans G2
            have BW1 := G2.at BW (by simp)
            have HGI : Hid (W3.heap.size ≤ wr.heap.size ∧ w.heap.size < W3.heap.size) := ⟨FX.out.size, (Array.getElem?_eq_some_iff.1 B3.out).1⟩
            clear g1 b8 g2 G2 q0 q1 q2 q3 q4 q5 c2 c2' FW BW hmk3 FX
            generalize (wr.alloc (.cells #[.int .i64 xop, .int .i64 xa, .int .i64 xb, .int .i64 xc, .int .i64 xk, .slice xla xn xlc] 59)).alloc (.cells M3 4) = X1 at *
            generalize wr.heap.size = c8 at *
            have p0 : X1.cell? ⟨w.heap.size, 0, none⟩ = some _ := at_cells BW1 0 rfl
            have p1 : X1.cell? ⟨w.heap.size, 1, none⟩ = some _ := at_cells BW1 1 rfl
            have p2 : X1.cell? ⟨w.heap.size, 2, none⟩ = some _ := at_cells BW1 2 rfl
            have p3 : X1.cell? ⟨w.heap.size, 3, none⟩ = some _ := at_cells BW1 3 rfl
            have C19' := C19 X1 (HG3.out.trans HFX1.out)
            go_wp2_with fail
            with_reducible (refine C19'.mono ?_)
            rintro e X2 ⟨v2, rfl, ho2, f2⟩
            obtain ⟨va, vc, rfl, hvc, hvn⟩ := ho2.slice
            have HFX2 : Hid (Fr [] W3 X2) := HFX1.out.trans f2
            have B82 : Hid (X2.heap[c8]? = some (.cells #[.int .i64 xop, .int .i64 xa, .int .i64 xb, .int .i64 xc, .int .i64 xk, .slice xla xn xlc] 59 (0, 0))) := f2.at B8 (by simp)
            have NW2 : Hid (X2.rowIs (c8 + 1) 4 R (fun r => .bool ((fun _ => false : Nat → Bool) r))) := row3.of_block (f2.block _ row3.lt (by simp))
            have HO2 : Hid (OR X2 X1.heap.size (.slice va (nextL L a).length vc) (nextL L a)) := ho2
            have HX1 : Hid (c8 + 1 < X1.heap.size) := row3.lt
            clear p0 p1 p2 p3 C19' f2 BW1 B8 row3 HFX1 ho2 C19 CN
            generalize hRN : nextL L a = RN at *
            have HRN : Hid (nextL L a = RN) := hRN
            clear hRN
            generalize hnr : RN.length = nr at *
            have HNR : Hid (RN.length = nr) := hnr
            have hnrI : (nr : Int) ≤ 2 := by have := HNL.out; omega
            clear hnr
            generalize hwx : wrI x = wx at *
            have HWX : Hid (wrI x = wx) := hwx
            clear hwx
            go_wp2
            go_loopw [54] (fun i wq => ∃ (j : Nat) (nw : Nat → Bool), j ≤ nr ∧ i = .int .i64 j ∧ Hid (wq.rowIs (c8 + 1) 4 R (fun r => .bool (nw r))) ∧ Hid (∀ r, r < R → (nw r = true ↔ ∃ k : Nat, (k : Int) ∈ RN.take j ∧ hasS (P k).s r = true ∧ (r : Int) ≠ wx)) ∧ Hid (Fr [c8 + 1] X2 wq)) (fun i _ => nr - (intOf i).toNat)
            case atStart => exact ⟨0, _, Nat.zero_le _, rfl, NW2, (fun r _ => by simp), Fr.refl _ _⟩
            case round =>
              obtain ⟨j, nw, hj, rfl, NW, HN, FN⟩ := hrel
              by_cases hjl : j < nr
              · have hy : RN[j]? = some (RN[j]'(by rw [HNR.out]; exact hjl)) := List.getElem?_eq_getElem _
                generalize RN[j]'(by rw [HNR.out]; exact hjl) = q at hy
                obtain ⟨k, e, hk⟩ := HNX.out j q hy
                subst e
                have hkI : (k : Int) < N := by omega
                obtain ⟨g, c9, e9, hcell, _, hgl⟩ := own_cells HO2.out (j := j) (x := .int .i64 (k : Int)) (by simp [hy])
                have hg := HO2.out.lt g (by rw [e9]; rfl)
                injection e9 with e9 e9b e9c
                subst e9
                clear e9b e9c
                have hc := FN.out.cell1 hcell (by simp; have := HX1.out; omega)
                obtain ⟨tg, tgc, ka, kc, et, htg, htc, hka⟩ := HLL.out.at3 hk
                injection et with et etb etc
                subst et
                clear etb etc
                have htc2 := FN.out.cell1 (HFX2.out.cell1 htc (by simp)) (by simp; have := HGI.out.1; omega)
                have HTK : Hid (∀ z : Nat, (z : Int) ∈ RN.take (j + 1) ↔ (z : Int) ∈ RN.take j ∨ z = k) := fun z => by
                  rw [List.take_add_one, hy, List.mem_append]
                  simp only [Option.toList_some, List.mem_singleton]
                  constructor
                  · rintro (h | h)
                    · exact .inl h
                    · exact .inr (by omega)
                  · rintro (h | h)
                    · exact .inl h
                    · exact .inr (by omega)
                have HKI : Hid (∀ (q : Nat) (z : Int), ((regsN (P k).s 16).map (fun r : Nat => (r : Int)))[q]? = some z → ∃ r : Nat, z = (r : Int) ∧ r < R) := fun q z hz => by
                  obtain ⟨r, e, _, h2⟩ := reg_is hz
                  exact ⟨r, e, HCN.out k r hk h2⟩
                have HKM : Hid (∀ r : Nat, r < R → ((r : Int) ∈ (regsN (P k).s 16).map (fun r : Nat => (r : Int)) ↔ hasS (P k).s r = true)) := fun r hr => by
                  rw [reg_mem]
                  exact ⟨fun h => h.2, fun h => ⟨by omega, h⟩⟩
                have HKL : Hid (((regsN (P k).s 16).map (fun r : Nat => (r : Int))).length ≤ 1024) := by have := regsN_len (P k).s; unfold Hid; simpa using this
                have HKA : Hid (KAt W3.heap.size W3 ka ((regsN (P k).s 16).map (fun r : Nat => (r : Int)))) := hka
                clear hcell hy htc hka
                generalize (regsN (P k).s 16).map (fun r : Nat => (r : Int)) = KK at *
                generalize hnk : KK.length = nk at *
                have HNK : Hid (KK.length = nk) := hnk
                have hnkI : (nk : Int) ≤ 1024 := by have := HKL.out; omega
                clear hnk
                go_wp2
                go_loopw [63] (fun i wq => ∃ (q : Nat) (nw' : Nat → Bool), q ≤ nk ∧ i = .int .i64 q ∧ Hid (wq.rowIs (c8 + 1) 4 R (fun r => .bool (nw' r))) ∧ Hid (∀ r, r < R → (nw' r = true ↔ nw r = true ∨ ((r : Int) ∈ KK.take q ∧ (r : Int) ≠ wx))) ∧ Hid (Fr [c8 + 1] X2 wq)) (fun i _ => nk - (intOf i).toNat)
                case atStart => exact ⟨0, nw, Nat.zero_le _, rfl, NW, (fun r _ => by simp), FN⟩
                case round =>
                  clear hc htc2
                  obtain ⟨q, nw', hq, rfl, NW', HN', FN'⟩ := hrel
                  by_cases hql : q < nk
                  · have hqI : (q : Int) < nk := by omega
                    have hz : KK[q]? = some (KK[q]'(by rw [HNK.out]; exact hql)) := List.getElem?_eq_getElem _
                    generalize KK[q]'(by rw [HNK.out]; exact hql) = z at hz
                    obtain ⟨r0, e, hr0⟩ := HKI.out q z hz
                    subst e
                    have hr0I : (r0 : Int) < R := by omega
                    obtain ⟨kb, ko, rfl, hkb, hkc⟩ := HKA.out q _ hz
                    have hkc2 := FN'.out.cell1 (HFX2.out.cell1 hkc (by simp)) (by simp; have := HGI.out.1; omega)
                    have cR := FN'.out.cell1 (HFX2.out.cell1 (at_cells B3.out 2 rfl) (by simp)) (by simp; have := HGI.out; omega)
                    have e2 := NW'.out.cell hr0
                    have fz := NW'.out.frozen r0
                    have HTQ : Hid (∀ z : Int, z ∈ KK.take (q + 1) ↔ z ∈ KK.take q ∨ z = (r0 : Int)) := fun z => by
                      rw [List.take_add_one, hz, List.mem_append]
                      simp only [Option.toList_some, List.mem_singleton]
                    have HNX' : Hid (∀ (b : Bool), (b = true ↔ nw' r0 = true ∨ (r0 : Int) ≠ wx) → ∀ r, r < R → ((if r = r0 then b else nw' r) = true ↔ nw r = true ∨ ((r : Int) ∈ KK.take (q + 1) ∧ (r : Int) ≠ wx))) := fun b hb r hr => by
                      rw [HTQ.out]
                      by_cases e : r = r0
                      · subst e
                        rw [if_pos rfl, hb, HN'.out r hr]
                        constructor
                        · rintro ((h | ⟨h, h'⟩) | h)
                          · exact .inl h
                          · exact .inr ⟨.inl h, h'⟩
                          · exact .inr ⟨.inr rfl, h⟩
                        · rintro (h | ⟨h, h'⟩)
                          · exact .inl (.inl h)
                          · exact .inr h'
                      · rw [if_neg e, HN'.out r hr]
                        constructor
                        · rintro (h | ⟨h, h'⟩)
                          · exact .inl h
                          · exact .inr ⟨.inl h, h'⟩
                        · rintro (h | ⟨h | h, h'⟩)
                          · exact .inl h
                          · exact .inr ⟨h, h'⟩
                          · exact absurd (by omega) e
                    clear hkc hz HTQ
                    cases hn1 : nw' r0 with
                    | true =>
                      rw [hn1] at e2
                      have HB : Hid _ := HNX'.out true (by rw [hn1]; simp)
                      have HR' : Hid ((wr.setCell ⟨c8 + 1, r0, none⟩ (.bool true)).rowIs (c8 + 1) 4 R (fun r => .bool (if r = r0 then true else nw' r))) := (NW'.out.set r0 (.bool true)).congr (fun r _ => by split <;> rfl)
                      have HF' : Hid (Fr [c8 + 1] X2 (wr.setCell ⟨c8 + 1, r0, none⟩ (.bool true))) := FN'.out.setCell (.inl (by simp)) _
                      clear hn1 HNX' C20 C21
                      go_wp2
                      go_roundw
                      case rel => exact ⟨q + 1, _, hql, by go_num, HR', HB, HF'⟩
                      case measure => simp [intOf]; omega
                    | false =>
                      rw [hn1] at e2
                      have HNW : Hid (wr.rowIs (c8 + 1) 4 R (fun r => .bool (nw' r))) := NW'.out
                      have HFq : Hid (Fr [c8 + 1] X2 wr) := FN'
                      have B8q := FN'.out.at B82.out (by simp)
                      have i0 : wr.cell? ⟨c8, 0, none⟩ = some _ := at_cells B8q 0 rfl
                      have i1 : wr.cell? ⟨c8, 1, none⟩ = some _ := at_cells B8q 1 rfl
                      have i2 : wr.cell? ⟨c8, 2, none⟩ = some _ := at_cells B8q 2 rfl
                      have i3 : wr.cell? ⟨c8, 3, none⟩ = some _ := at_cells B8q 3 rfl
                      have i4 : wr.cell? ⟨c8, 4, none⟩ = some _ := at_cells B8q 4 rfl
                      have i5 : wr.cell? ⟨c8, 5, none⟩ = some _ := at_cells B8q 5 rfl
                      have HB : Hid (∀ r, r < R → ((if r = r0 then ((r0 : Int) != wx) else nw' r) = true ↔ nw r = true ∨ ((r : Int) ∈ KK.take (q + 1) ∧ (r : Int) ≠ wx))) := HNX'.out ((r0 : Int) != wx) (by rw [hn1]; simp)
                      clear hn1 HNX' C21 B8q
                      go_wp2_with fail
                      with_reducible (refine (C20 _).mono ?_)
                      rintro e w5 ⟨rfl, f5⟩
                      have NW5 := HNW.out.of_block (f5.block _ HNW.out.lt (by simp))
                      have e25 := NW5.cell hr0
                      have fz5 := NW5.frozen r0
                      have HR' : Hid ((w5.setCell ⟨c8 + 1, r0, none⟩ (.bool ((r0 : Int) != wx))).rowIs (c8 + 1) 4 R (fun r => .bool (if r = r0 then ((r0 : Int) != wx) else nw' r))) := (NW5.set r0 (.bool ((r0 : Int) != wx))).congr (fun r _ => by split <;> rfl)
                      have HF' : Hid (Fr [c8 + 1] X2 (w5.setCell ⟨c8 + 1, r0, none⟩ (.bool ((r0 : Int) != wx)))) := (HFq.out.trans (f5.sub (by simp))).setCell (.inl (by simp)) _
                      clear NW5 f5 C20 i0 i1 i2 i3 i4 i5 e2 fz cR hkc2
                      go_wp2
                      go_roundw
                      case rel => exact ⟨q + 1, _, hql, by go_num, HR', HB, HF'⟩
                      case measure => simp [intOf]; omega
                  · obtain rfl : q = nk := by omega
                    have HNj : Hid (∀ r, r < R → (nw' r = true ↔ ∃ z : Nat, (z : Int) ∈ RN.take (j + 1) ∧ hasS (P z).s r = true ∧ (r : Int) ≠ wx)) := fun r hr => by
                      rw [HN'.out r hr, show KK.take q = KK from List.take_of_length_le (by rw [HNK.out]; exact Nat.le_refl _), HKM.out r hr, HN.out r hr]
                      constructor
                      · rintro (⟨z, h1, h2, h3⟩ | ⟨h1, h2⟩)
                        · exact ⟨z, (HTK.out z).2 (.inl h1), h2, h3⟩
                        · exact ⟨k, (HTK.out k).2 (.inr rfl), h1, h2⟩
                      · rintro ⟨z, h1, h2, h3⟩
                        rcases (HTK.out z).1 h1 with h4 | rfl
                        · exact .inl ⟨z, h4, h2, h3⟩
                        · exact .inr ⟨h2, h3⟩
                    clear HN HN' HTK
                    go_wp2
                    go_roundw
                    case rel => exact ⟨j + 1, nw', hjl, by go_num, NW', HNj, FN'⟩
                    case measure => simp [intOf]; omega
              · obtain rfl : j = nr := by omega
                have HTJ : Hid (RN.take j = RN) := List.take_of_length_le (by rw [HNR.out]; exact Nat.le_refl _)
                have B8q := FN.out.at B82.out (by simp)
                have i0 : wr.cell? ⟨c8, 0, none⟩ = some _ := at_cells B8q 0 rfl
                have i1 : wr.cell? ⟨c8, 1, none⟩ = some _ := at_cells B8q 1 rfl
                have i2 : wr.cell? ⟨c8, 2, none⟩ = some _ := at_cells B8q 2 rfl
                have i3 : wr.cell? ⟨c8, 3, none⟩ = some _ := at_cells B8q 3 rfl
                have i4 : wr.cell? ⟨c8, 4, none⟩ = some _ := at_cells B8q 4 rfl
                have i5 : wr.cell? ⟨c8, 5, none⟩ = some _ := at_cells B8q 5 rfl
                have HFW3 : Hid (Fr [] W3 wr) := ((HFX2.out.sub (T := [c8 + 1]) (by simp)).trans FN.out).sub (fun k hk => .inr (by simp at hk; have := HGI.out.1; omega))
                have C21' := C21 wr (HG3.out.trans HFW3.out)
                clear B8q C21 C20
                go_wp2_with fail
                with_reducible (refine C21'.mono ?_)
                rintro e X6 ⟨v6, rfl, ho6, f6⟩
                obtain ⟨da, dc, rfl, hdc, hdn⟩ := ho6.slice
                have HO6 : Hid (OR X6 wr.heap.size (.slice da (rdL x).length dc) (rdL x)) := ho6
                have HFW6 : Hid (Fr [] W3 X6) := HFW3.out.trans f6
                have HNW6 : Hid (X6.rowIs (c8 + 1) 4 R (fun r => .bool (nw r))) := NW.out.of_block (f6.block _ NW.out.lt (by simp))
                have HNL6 : Hid (c8 + 1 < wr.heap.size) := NW.out.lt
                have HN6 : Hid (∀ r, r < R → (nw r = true ↔ (∃ k : Nat, (k : Int) ∈ RN ∧ hasS (P k).s r = true ∧ (r : Int) ≠ wx) ∨ (r : Int) ∈ (rdL x).take 0)) := fun r hr => by
                  rw [HN.out r hr, HTJ.out]
                  simp
                have HRDl : Hid ((rdL x).length ≤ 9223372036854775807) := by have := ho6.len9; unfold Hid; omega
                clear ho6 f6 C21' i0 i1 i2 i3 i4 i5 NW HN FN HO2 NW2 HFW3 HFX2
                generalize hrd : rdL x = RD at *
                have HRD : Hid (rdL x = RD) := hrd
                clear hrd
                generalize hnd : RD.length = nd at *
                have HND : Hid (RD.length = nd) := hnd
                have hndI : (nd : Int) ≤ 9223372036854775807 := by have := HRDl.out; omega
                clear hnd
                generalize wr.heap.size = w6 at *
                go_wp2
                go_loopw [93] (fun i wq => ∃ (j : Nat) (nw : Nat → Bool), j ≤ nd ∧ i = .int .i64 j ∧ Hid (wq.rowIs (c8 + 1) 4 R (fun r => .bool (nw r))) ∧ Hid (∀ r, r < R → (nw r = true ↔ (∃ k : Nat, (k : Int) ∈ RN ∧ hasS (P k).s r = true ∧ (r : Int) ≠ wx) ∨ (r : Int) ∈ RD.take j)) ∧ Hid (Fr [c8 + 1] X6 wq)) (fun i _ => nd - (intOf i).toNat)
                case atStart => exact ⟨0, _, Nat.zero_le _, rfl, HNW6, HN6, Fr.refl _ _⟩
                case round =>
                  clear HNW6 HN6
                  obtain ⟨j, nw, hj, rfl, NW, HN, FN⟩ := hrel
                  by_cases hjl : j < nd
                  · have hy : RD[j]? = some (RD[j]'(by rw [HND.out]; exact hjl)) := List.getElem?_eq_getElem _
                    generalize RD[j]'(by rw [HND.out]; exact hjl) = q at hy
                    obtain ⟨g, c9, e9, hcell, _, hgl⟩ := own_cells HO6.out (j := j) (x := .int .i64 q) (by simp [hy])
                    have hg := HO6.out.lt g (by rw [e9]; rfl)
                    injection e9 with e9 e9b e9c
                    subst e9
                    clear e9b e9c
                    have hc := FN.out.cell1 hcell (by simp; have := HNL6.out; omega)
                    have cR := FN.out.cell1 (HFW6.out.cell1 (at_cells B3.out 2 rfl) (by simp)) (by simp; have := HGI.out; omega)
                    have HTK : Hid (∀ z : Int, z ∈ RD.take (j + 1) ↔ z ∈ RD.take j ∨ z = q) := fun z => by
                      rw [List.take_add_one, hy, List.mem_append]
                      simp only [Option.toList_some, List.mem_singleton]
                    clear hcell hy
                    by_cases h0 : 0 ≤ q
                    · by_cases h1 : q < R
                      · obtain ⟨n, rfl⟩ := Int.eq_ofNat_of_zero_le h0
                        have hnR : n < R := by omega
                        have e2 := NW.out.cell hnR
                        have fz := NW.out.frozen n
                        have HR' : Hid ((wr.setCell ⟨c8 + 1, n, none⟩ (.bool true)).rowIs (c8 + 1) 4 R (fun r => .bool (if r = n then true else nw r))) := (NW.out.set n (.bool true)).congr (fun r _ => by split <;> rfl)
                        have HF' : Hid (Fr [c8 + 1] X6 (wr.setCell ⟨c8 + 1, n, none⟩ (.bool true))) := FN.out.setCell (.inl (by simp)) _
                        have HB : Hid (∀ r, r < R → ((if r = n then true else nw r) = true ↔ (∃ k : Nat, (k : Int) ∈ RN ∧ hasS (P k).s r = true ∧ (r : Int) ≠ wx) ∨ (r : Int) ∈ RD.take (j + 1))) := fun r hr => by
                          rw [HTK.out]
                          by_cases e : r = n
                          · subst e; simp
                          · rw [if_neg e, HN.out r hr]
                            constructor
                            · rintro (h | h)
                              · exact .inl h
                              · exact .inr (.inl h)
                            · rintro (h | h | h)
                              · exact .inl h
                              · exact .inr h
                              · exact absurd (by omega) e
                        clear NW HN HTK
                        go_wp2
                        go_roundw
                        case rel => exact ⟨j + 1, _, hjl, by go_num, HR', HB, HF'⟩
                        case measure => simp [intOf]; omega
                      · have HB : Hid (∀ r, r < R → (nw r = true ↔ (∃ k : Nat, (k : Int) ∈ RN ∧ hasS (P k).s r = true ∧ (r : Int) ≠ wx) ∨ (r : Int) ∈ RD.take (j + 1))) := fun r hr => by
                          rw [HTK.out, HN.out r hr]
                          constructor
                          · rintro (h | h)
                            · exact .inl h
                            · exact .inr (.inl h)
                          · rintro (h | h | h)
                            · exact .inl h
                            · exact .inr h
                            · omega
                        have hd1 : decide (q < (R : Int)) = false := by simpa using h1
                        clear HN HTK
                        go_wp2
                        go_roundw
                        case rel => exact ⟨j + 1, nw, hjl, by go_num, NW, HB, FN⟩
                        case measure => simp [intOf]; omega
                    · have HB : Hid (∀ r, r < R → (nw r = true ↔ (∃ k : Nat, (k : Int) ∈ RN ∧ hasS (P k).s r = true ∧ (r : Int) ≠ wx) ∨ (r : Int) ∈ RD.take (j + 1))) := fun r hr => by
                        rw [HTK.out, HN.out r hr]
                        constructor
                        · rintro (h | h)
                          · exact .inl h
                          · exact .inr (.inl h)
                        · rintro (h | h | h)
                          · exact .inl h
                          · exact .inr h
                          · omega
                      have hd1 : decide (0 ≤ q) = false := by simpa using h0
                      clear HN HTK cR
                      go_wp2
                      go_roundw
                      case rel => exact ⟨j + 1, nw, hjl, by go_num, NW, HB, FN⟩
                      case measure => simp [intOf]; omega
                  · obtain rfl : j = nd := by omega
                    have HNF : Hid (∀ r, r < R → (nw r = true ↔ hasS (P a).s r = true)) := fun r hr => by
                      rw [HN.out r hr, List.take_of_length_le (by rw [HND.out]; exact Nat.le_refl _)]
                      have h := least_eqn HLe.out (r := r) HX.out
                      rw [HRN.out, HWX.out, HRD.out] at h
                      rw [h]
                      exact ⟨fun h => ⟨⟨by omega, by omega, by omega⟩, h⟩, fun h => h.2⟩
                    have HEQ : Hid ((regsN (P a).s 16).map (fun r : Nat => (r : Int)) = regR (fun _ => nw) 0 R) := reg_same (by omega) (fun r hr => HCN.out a r hap hr) HNF.out
                    have HFW7 : Hid (Fr [] W3 wr) := ((HFW6.out.sub (T := [c8 + 1]) (by simp)).trans FN.out).sub (fun k hk => .inr (by simp at hk; have := HGI.out.1; omega))
                    have HNW7 : Hid (wr.rowIs (c8 + 1) 4 R (fun r => .bool (nw r))) := NW
                    have HWZ : Hid (W3.heap.size ≤ wr.heap.size) := HFW7.out.size
                    obtain ⟨i3, hi3, hz3, hs3, hb3⟩ := info_parts info3
                    obtain ⟨W7, hW7⟩ : ∃ W7, W7 = wr := ⟨_, rfl⟩
                    have HW7 : Hid (W7 = wr) := hW7
                    clear HN FN HFW6 HO6 NW HRDl HND HRD HNF
                    go_wp2
                    rw [← hW7] at HFW7 HNW7 HWZ ⊢
                    clear hW7 HW7
                    go_loopw [13, 111] (fun v i wq => ∃ q : Nat, q ≤ R ∧ i = .int .i64 q ∧ Hid (OR wq W7.heap.size v (regR (fun _ => nw) 0 q)) ∧ Hid (Fr [] W7 wq)) (fun _ i _ => R - (intOf i).toNat)
                    case atStart => exact ⟨0, Nat.zero_le _, rfl, OR.nil _ _, Fr.refl _ _⟩
                    case round =>
                      obtain ⟨q, hq, rfl, HO, FQ⟩ := hrel
                      obtain ⟨va, vc, rfl, hvc, hvn⟩ := HO.out.slice
                      by_cases hql : q < R
                      · have hqI : (q : Int) < R := by omega
                        have e1 := (HNW7.out.of_block (FQ.out.block _ HNW7.out.lt (by simp))).cell hql
                        have HRS : Hid _ := regR_succ (fun _ => nw) 0 q
                        have HKl : Hid ((regR (fun _ => nw) 0 q).length ≤ 1000) := by have := regR_len (fun _ => nw) 0 q; unfold Hid; omega
                        cases hs1 : nw q with
                        | false =>
                          rw [hs1] at e1
                          have HE : Hid (regR (fun _ => nw) 0 (q + 1) = regR (fun _ => nw) 0 q) := by unfold Hid; rw [HRS.out, hs1]; simp
                          clear hs1 HRS
                          go_wp2
                          go_roundw
                          case rel => exact ⟨q + 1, hql, by go_num, (by unfold Hid; rw [HE.out]; exact HO.out), FQ⟩
                          case measure => simp [intOf]; omega
                        | true =>
                          rw [hs1] at e1
                          have HE : Hid (regR (fun _ => nw) 0 (q + 1) = regR (fun _ => nw) 0 q ++ [(q : Int)]) := by unfold Hid; rw [HRS.out, hs1]; simp
                          have ho := HO.out
                          have hlo := ho.lt
                          have HWQ : Hid (W7.heap.size ≤ wr.heap.size) := FQ.out.size
                          unfold OR at ho
                          clear hs1 HRS
                          generalize regR (fun _ => nw) 0 q = K at *
                          have hKI : (K.length : Int) ≤ 1000 := by have := HKl.out; omega
                          go_wp2_with (at_builtin; refine wpList_append_src _ rfl _ _ 30 rfl W7.heap.size 3 i3 (.int .i64 0) 1 8 Tryd.underlying30 hi3 hz3 hs3 hb3 rfl (by decide) (.slice va K.length vc) K.length (K.map (Value.int .i64)) rfl (ho.alloc _) (some ⟨wr.heap.size, 0, none⟩) 1 1 [.int .i64 q] rfl rfl (by simp) (fun ad h => by cases h; exact one_new wr _) (by simp [Value.oneCell']) (by have := HKl.out; unfold maxLen; omega) (by have := HKl.out; omega) (by have := HWQ.out; simp; omega) ?_)
                          intro v3 w3 ho3 hg hl3
                          have f3 : Fr (Value.slice va K.length vc).ownBlock.toList wr w3 := ((Fr.refl _ _).alloc _).trans (Fr.ofGrown hg)
                          have O3 : Hid (OR w3 W7.heap.size v3 (regR (fun _ => nw) 0 (q + 1))) := by unfold Hid OR; rw [HE.out]; simpa using ho3
                          have F3 : Hid (Fr [] W7 w3) := ((FQ.out.sub (T := (Value.slice va K.length vc).ownBlock.toList) (by simp)).trans f3).sub (fun k hk => .inr (hlo k (by simpa using hk)).1)
                          clear ho3 hg hl3 f3 ho hlo HO FQ
                          go_wp2
                          go_roundw
                          case rel => exact ⟨q + 1, hql, by go_num, O3, F3⟩
                          case measure => simp [intOf]; omega
                      · obtain rfl : q = R := by omega
                        obtain ⟨tg, tgc, ka, kc, et, htg, htc, hka⟩ := HLL.out.at3 hap
                        injection et with et etb etc
                        subst et
                        clear etb etc
                        rw [HEQ.out] at htc hka
                        have HFE : Hid (Fr [] W3 wr) := HFW7.out.trans FQ.out
                        have htc2 := HFE.out.cell1 htc (by simp)
                        have HKl : Hid ((regR (fun _ => nw) 0 q).length ≤ 1000) := by have := regR_len (fun _ => nw) 0 q; unfold Hid; omega
                        have C11 := ints_any wr.heap.size wr _ _ ka va _ _ kc vc rfl rfl (by have := HKl.out; unfold maxLen; omega) (by have := HKl.out; unfold maxLen; omega) ((hka.fr HFE.out (by simp)).up HFE.out.size) HO.out.kat
                        rw [ksEq_refl'] at C11
                        clear htc hka HO FQ HEQ
                        generalize regR (fun _ => nw) 0 q = K at *
                        go_wp2_with fail
                        with_reducible (refine C11.mono ?_)
                        rintro e w5 ⟨rfl, f5⟩
                        have HF5 : Hid (Fr [] W3 w5) := HFE.out.trans f5
                        clear C11 f5 htc2 HFE
                        go_wp2
                        go_roundw
                        case rel => exact ⟨a + 1, hap, by go_num, HF5⟩
                        case measure => simp [intOf]; omega
          · obtain rfl : a = N := by omega
            have HGG : Hid (Fr [] w wr) := HG3.out.trans FX.out
            go_wp2
            go_ret
            exact ⟨rfl, HGG.out⟩
end Go.Proofs.YtajdnakpljgkpaaDoor
