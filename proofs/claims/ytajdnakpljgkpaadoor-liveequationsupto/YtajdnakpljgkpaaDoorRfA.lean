/-
  The document's sets, by its own text; conditions: the function lies as told.
-/
import Derived.Test.YtajdnakpljgkpaaDoorRfP
import Derived.Test.YtajdnakpljgkpaaDoorIrE
import Derived.Test.YtajdnakpljgkpaaDoorIrL
import Derived.Test.YtajdnakpljgkpaaDoorLvA
import Derived.Deep.LoopGhost
import Derived.Deep.Cut
namespace Go.Proofs.YtajdnakpljgkpaaDoor
open Go.RowKit
set_option linter.unusedVariables false
set_option linter.unusedSimpArgs false

theorem under73 : Tryd.prog.underlying 73 = some (.slice 55) := by kernel_rfl
theorem under55 : Tryd.prog.underlying 55 = some (.slice 4) := by kernel_rfl
theorem info55 : (Tryd.prog.info? 55).map (fun i => (i.zero, i.size, i.bytes)) = some (some (.slice none 0 0), 1, 24) := by kernel_rfl
theorem info4 : (Tryd.prog.info? 4).map (fun i => (i.zero, i.size, i.bytes)) = some (some (.bool false), 1, 1) := by kernel_rfl
theorem make_rows (w : World) (n : Nat) (h : n ≤ 2000000) : ∃ M, (Instr.makeSlice 73 (.int .i64 n) (.int .i64 n)).run Tryd.prog w = .ok (.slice (some ⟨w.heap.size, 0, none⟩) n n) (w.alloc (.cells M 55)) ∧ (w.alloc (.cells M 55)).rowIs w.heap.size 55 n (fun _ => .slice none 0 0) := by
  obtain ⟨i, hi, hz, hs, hb⟩ := info_parts info55
  have := run_make (P := Tryd.prog) w 73 55 i _ under73 hi hz .i64 .i64 n n (by omega) (Int.le_refl _) (by rw [hb]; omega) (by omega)
  rw [hs] at this
  simp only [Int.toNat_natCast, Nat.mul_one] at this
  exact ⟨_, this, World.rowIs_made w _ n 55⟩
theorem make_row (w : World) (n : Nat) (h : n ≤ 2000000) : ∃ M, (Instr.makeSlice 55 (.int .i64 n) (.int .i64 n)).run Tryd.prog w = .ok (.slice (some ⟨w.heap.size, 0, none⟩) n n) (w.alloc (.cells M 4)) ∧ (w.alloc (.cells M 4)).rowIs w.heap.size 4 n (fun _ => .bool false) := by
  obtain ⟨i, hi, hz, hs, hb⟩ := info_parts info4
  have := run_make (P := Tryd.prog) w 55 4 i _ under55 hi hz .i64 .i64 n n (by omega) (Int.le_refl _) (by rw [hb]; omega) (by omega)
  rw [hs] at this
  simp only [Int.toNat_natCast, Nat.mul_one] at this
  exact ⟨_, this, World.rowIs_made w _ n 4⟩

theorem OR.len9 {w : World} {base : Nat} {v : Value} {K : List Int} (h : OR w base v K) : K.length ≤ 9223372036854775807 := by
  rcases h.2 with ⟨e, h0⟩ | ⟨g, cap, cur, e, hb, hg, hc, hm, hs, ht⟩
  · omega
  · unfold maxLen at hm; omega
/-- What sets answers. -/
def SetsOut (L : List In) (rs : Int) (N R : Nat) (w : World) (e : Ending) (w' : World) : Prop := ∃ gi rb S, e = .returned (.slice (some ⟨gi, 0, none⟩) N N) ∧ SM w' gi rb N R S ∧ Least L rs (fun i r => r < R ∧ S i r = true) ∧ Fr [] w w'
set_option maxRecDepth 100000 in
set_option maxHeartbeats 8000000 in
theorem sets_any (B : Nat) (f : Fu) (w : World) (hf : FuOk B w f) (hB : B ≤ w.heap.size) (hN : f.code.length ≤ 2000000) (hl : ∀ x ∈ f.code, x.l.length ≤ 8000000000000) :
    Calls Tryd.prog 24 #[.agg f.arr] w (SetsOut f.code f.rs f.code.length (regN f.rs) w) := by
  have HF : Hid (FuOk B w f) := hf
  have f1 : Fr [] w (w.alloc (.cells f.arr 24)) := (Fr.refl _ _).alloc _
  have b1 := heap_alloc_new w (.cells f.arr 24)
  obtain ⟨M, hmk, row0⟩ := make_rows (w.alloc (.cells f.arr 24)) f.code.length hN
  have f2 : Fr [] (w.alloc (.cells f.arr 24)) ((w.alloc (.cells f.arr 24)).alloc (.cells M 55)) := (Fr.refl _ _).alloc _
  have B1 := f2.at b1 (by simp)
  have F2 := f1.trans f2
  have hNI : (f.code.length : Int) ≤ 2000000 := by omega
  have CN := fun (d : Nat) (w' : World) (fr : Fr [] w w') => rnext_any B f d w' (hf.fr fr (by simp)) (Nat.le_trans hB fr.size)
  simp only [World.size_alloc] at row0 hmk
  have hR : (regN f.rs : Int) = min (max f.rs 0) 1000 := by unfold regN; omega
  have hRl := regN_le f.rs
  obtain ⟨name, ps, rs, ca, cc, L⟩ := f
  unfold Fu.arr at *
  simp only at *
  generalize hn : L.length = N at *
  have HL : Hid (L.length = N) := hn
  generalize hRR : regN rs = R at *
  have HRR : Hid (regN rs = R) := hRR
  have hRI : (R : Int) ≤ 1000 := by omega
  have hsz : ((w.alloc (.cells #[.string name, .int .i64 ps, .int .i64 rs, .slice ca N cc] 24)).alloc (.cells M 55)).heap.size = w.heap.size + 2 := by simp
  clear hf f1 f2 hn b1 hRR
  have hmx : (if 1000 < (if rs < 0 then 0 else rs) then (1000 : Int) else (if rs < 0 then 0 else rs)) = R := by rw [hR]; split <;> split <;> omega
  have HMX : Hid _ := hmx
  have HHL : Hid (∀ x ∈ L, x.l.length ≤ 8000000000000) := hl
  clear hmx hR hl
  go_enter Tryd.func24, Tryd.ntmps24
  go_upto_region 3 with fail
  rw [HMX.out]
  generalize (if rs < 0 then 0 else rs) = q20
  clear HMX hmk
  have HS0 : Hid (((w.alloc (.cells #[.string name, .int .i64 ps, .int .i64 rs, .slice ca N cc] 24)).alloc (.cells M 55)).heap.size = w.heap.size + 2 + 0) := by unfold Hid; rw [hsz]
  clear hsz
  have HF2 : Hid _ := F2
  have HB1 : Hid _ := B1
  have HRW0 : Hid (((w.alloc (.cells #[.string name, .int .i64 ps, .int .i64 rs, .slice ca N cc] 24)).alloc (.cells M 55)).rowIs (w.heap.size + 1) 55 N (fun i => if i < 0 then .slice (some ⟨w.heap.size + 2 + i, 0, none⟩) R R else .slice none 0 0)) := row0.congr (fun i _ => by simp)
  clear F2 B1 row0
  generalize (w.alloc (.cells #[.string name, .int .i64 ps, .int .i64 rs, .slice ca N cc] 24)).alloc (.cells M 55) = W at *
  go_wp2
  go_loopw [28] (fun i wr => ∃ p : Nat, p ≤ N ∧ i = .int .i64 p ∧ Hid (wr.rowIs (w.heap.size + 1) 55 N (fun i => if i < p then .slice (some ⟨w.heap.size + 2 + i, 0, none⟩) R R else .slice none 0 0)) ∧ Hid (∀ i, i < p → wr.rowIs (w.heap.size + 2 + i) 4 R (fun _ => .bool false)) ∧ Hid (wr.heap.size = w.heap.size + 2 + p) ∧ Hid (Fr [] w wr) ∧ Hid (wr.heap[w.heap.size]? = some (.cells #[.string name, .int .i64 ps, .int .i64 rs, .slice ca N cc] 24 (0, 0)))) (fun i _ => N - (intOf i).toNat)
  case atStart => exact ⟨0, Nat.zero_le _, rfl, HRW0, fun i hi => by omega, HS0, HF2, HB1⟩
  case round =>
    obtain ⟨p, hp, rfl, RO, RR, SZ, FW, BW⟩ := hrel
    by_cases hlt : p < N
    · have hpI : (p : Int) < N := by omega
      obtain ⟨M2, hmk2, row2⟩ := make_row wr R (by omega)
      have f3 : Fr [] wr (wr.alloc (.cells M2 4)) := (Fr.refl _ _).alloc _
      have ro3 := RO.out.of_block (f3.block _ RO.out.lt (by simp))
      have cx := ro3.cell hlt
      have fz := ro3.frozen p
      simp only [Nat.lt_irrefl, if_false] at cx
      have hsz := SZ.out
      have HRO : Hid (((wr.alloc (.cells M2 4)).setCell ⟨w.heap.size + 1, p, none⟩ (.slice (some ⟨wr.heap.size, 0, none⟩) R R)).rowIs (w.heap.size + 1) 55 N (fun i => if i < p + 1 then .slice (some ⟨w.heap.size + 2 + i, 0, none⟩) R R else .slice none 0 0)) := (ro3.set p _).congr (fun i _ => by
        by_cases e : i = p
        · subst e
          rw [if_pos rfl, if_pos (by omega), hsz]
        · rw [if_neg e]
          by_cases h : i < p
          · rw [if_pos h, if_pos (by omega)]
          · rw [if_neg h, if_neg (by omega)])
      have HRR3 : Hid (∀ i, i < p + 1 → ((wr.alloc (.cells M2 4)).setCell ⟨w.heap.size + 1, p, none⟩ (.slice (some ⟨wr.heap.size, 0, none⟩) R R)).rowIs (w.heap.size + 2 + i) 4 R (fun _ => .bool false)) := fun i hi => by
        by_cases e : i = p
        · subst e
          rw [hsz] at row2
          rw [hsz]
          exact row2.setOther (by simp; omega) _
        · exact ((RR.out i (by omega)).of_block (f3.block _ (RR.out i (by omega)).lt (by simp))).setOther (by simp; omega) _
      have HSZ3 : Hid (((wr.alloc (.cells M2 4)).setCell ⟨w.heap.size + 1, p, none⟩ (.slice (some ⟨wr.heap.size, 0, none⟩) R R)).heap.size = w.heap.size + 2 + (p + 1)) := by unfold Hid; simp [World.setCell, hsz]; omega
      have HFW3 : Hid (Fr [] w ((wr.alloc (.cells M2 4)).setCell ⟨w.heap.size + 1, p, none⟩ (.slice (some ⟨wr.heap.size, 0, none⟩) R R))) := (FW.out.trans f3).setCell (.inr (by simp)) _
      have HBW3 : Hid (((wr.alloc (.cells M2 4)).setCell ⟨w.heap.size + 1, p, none⟩ (.slice (some ⟨wr.heap.size, 0, none⟩) R R)).heap[w.heap.size]? = some (.cells #[.string name, .int .i64 ps, .int .i64 rs, .slice ca N cc] 24 (0, 0))) := (Below.heap_setCell _ _ _ _ (by simp)).trans (f3.at BW.out (by simp))
      clear RO RR SZ FW BW row2 ro3 f3 hsz
      go_wp2
      go_roundw
      case rel => exact ⟨p + 1, hlt, by go_num, HRO, HRR3, HSZ3, HFW3, HBW3⟩
      case measure => simp [intOf]; omega
    · obtain rfl : p = N := by omega
      have SM0 : Hid (SM wr (w.heap.size + 1) (fun i => w.heap.size + 2 + i) p R (fun _ _ => false)) := ⟨RO.out.congr (fun i hi => by simp only [hi, if_true]), fun i hi => RR.out i hi, fun i j _ _ e => by omega, fun i _ => by omega⟩
      have HGE : Hid (∀ i, i < p → w.heap.size ≤ w.heap.size + 2 + i) := fun i _ => by omega
      have hrb0 : Hid (∀ i, i < p → w.heap.size + 2 + i < wr.heap.size) := fun i hi => by have := SZ.out; omega
      generalize hrb : (fun i => w.heap.size + 2 + i) = rb at *
      have HRB : Hid (∀ i, w.heap.size < rb i ∧ rb i ≠ w.heap.size + 1) := fun i => by have h := congrFun hrb i; omega
      have HSO : Hid (soundS L rs (fun _ _ => false)) := fun T _ i r _ _ h => by simp at h
      clear hrb RO RR SZ hrb0 HGE HRW0 HS0
      have HG0 : Hid (cntF R p (fun _ _ => false) + 1 ≤ p * R + 1) := by have := cntF_most R (fun _ _ => false) p; unfold Hid; omega
      go_wp2
      go_loopg [6] (p * R + 1) (fun g u wr => ∃ (m : Bool) (S : Nat → Nat → Bool), u = .bool m ∧ Hid (SM wr (w.heap.size + 1) rb p R S) ∧ Hid (soundS L rs S) ∧ Hid (Fr [] w wr) ∧ Hid (wr.heap[w.heap.size]? = some (.cells #[.string name, .int .i64 ps, .int .i64 rs, .slice ca p cc] 24 (0, 0))) ∧ Hid (m = true → cntF R p S + 1 ≤ g) ∧ Hid (m = false → ∀ i, i < p → shutS L rs S i))
      case atStart => exact ⟨true, _, rfl, SM0, HSO, FW, BW, fun _ => HG0.out, fun h => by cases h⟩
      case round =>
        clear SM0 HSO FW BW HG0
        obtain ⟨m, S, rfl, HSM, HSO, FW, BW, HC, HD⟩ := hrel
        cases m with
        | false =>
          have HLe : Hid (Least L rs (fun i r => r < R ∧ S i r = true)) := by
            have h1 := least_S HSO.out (fun i hi => HD.out rfl i (by rw [HL.out] at hi; exact hi))
            rw [HRR.out] at h1
            exact h1
          go_wp2
          go_ret
          exact ⟨_, rb, S, rfl, HSM.out, HLe.out, FW.out⟩
        | true =>
          have HCn : Hid (cntF R p S + 1 ≤ gk) := HC.out rfl
          clear HC HD
          have c3 : wr.cell? ⟨w.heap.size, 3, none⟩ = some (.slice ca p cc) := at_cells BW.out 3 rfl
          go_wp2
          clear c3
          go_loopw [6, 7] (fun u v wr => ∃ (m : Bool) (a : Nat) (S' : Nat → Nat → Bool), u = .bool m ∧ v = .int .i64 ((a : Int) - 1) ∧ a ≤ p ∧ Hid (SM wr (w.heap.size + 1) rb p R S') ∧ Hid (soundS L rs S') ∧ Hid (Fr [] w wr) ∧ Hid (wr.heap[w.heap.size]? = some (.cells #[.string name, .int .i64 ps, .int .i64 rs, .slice ca p cc] 24 (0, 0))) ∧ Hid (m = true → cntF R p S' < cntF R p S) ∧ Hid (m = false → S' = S ∧ ∀ i, a ≤ i → i < p → shutS L rs S i)) (fun _ v _ => (intOf v + 1).toNat)
          case atStart => exact ⟨false, p, S, rfl, rfl, Nat.le_refl _, HSM, HSO, FW, BW, (fun h => by cases h), fun _ => ⟨rfl, fun i h1 h2 => by omega⟩⟩
          case round =>
            clear HSM HSO FW BW
            obtain ⟨m, a, S', rfl, rfl, ha, HSM, HSO, FW, BW, HC, HD⟩ := hrel
            cases a with
            | zero =>
              go_wp2
              go_roundg (if m = true then cntF R p S' + 1 else 0)
              case measure =>
                have h1 := HCn.out
                cases m with
                | true => have := HC.out rfl; simp; omega
                | false => simp; omega
              case rel =>
                refine ⟨m, S', rfl, HSM, HSO, FW, BW, fun h => by rw [if_pos h]; exact Nat.le_refl _, fun h i hi => ?_⟩
                obtain ⟨e1, e2⟩ := HD.out h
                rw [e1]
                exact e2 i (Nat.zero_le _) hi
            | succ a =>
              have hap : a < p := by omega
              have haI : (a : Int) < p := by omega
              have hx : L[a]? = some (L[a]'(by rw [HL.out]; exact hap)) := List.getElem?_eq_getElem _
              generalize L[a]'(by rw [HL.out]; exact hap) = x at hx
              have HX : Hid (L[a]? = some x) := hx
              obtain ⟨b, o, rfl, hb, hI⟩ := (HF.out.fr FW.out (by simp)).k a x hx
              have q0 := hI.c0
              have q1 := hI.c1
              have q2 := hI.c2
              have q3 := hI.c3
              have q4 := hI.c4
              have q5 := hI.c5
              have HXO : Hid (InOk B w x) := by
                obtain ⟨b', o', _, _, hI'⟩ := HF.out.k a x hx
                exact hI'.ok
              have HXL : Hid (x.l.length ≤ 8000000000000) := HHL.out x (List.mem_of_getElem? hx)
              have C21 := fun (w' : World) (fr : Fr [] w w') => rreads_any B x w' (HXO.out.fr fr (by simp)) (Nat.le_trans hB fr.size) HXL.out
              have C20 := fun (w' : World) => rwrites_any x w'
              have C19 := fun (w' : World) (fr : Fr [] w w') => CN a w' fr
              rw [rwr_eq] at C20
              rw [rnext_same] at C19
              rw [show regsL x (rT x.op) = rdL x from rfl] at C21
              have HNX : Hid (∀ (j : Nat) (q : Int), (nextL L a)[j]? = some q → ∃ k : Nat, q = (k : Int) ∧ k < p) := fun j q hq => by
                obtain ⟨k, e, hk⟩ := next_in (List.mem_of_getElem? hq)
                rw [HL.out] at hk
                exact ⟨k, e, hk⟩
              have HNL : Hid ((nextL L a).length ≤ 2) := next_len L a
              have c3 : wr.cell? ⟨w.heap.size, 3, none⟩ = some _ := at_cells BW.out 3 rfl
              clear hI hx
              unfold In.arr at C20 C21
              generalize hxo : x.op = xop at *
              generalize hxa : x.a = xa at *
              generalize hxb : x.b = xb at *
              generalize hxc : x.c = xc at *
              generalize hxk : x.k = xk at *
              generalize hxla : x.la = xla at *
              generalize hxl : x.l.length = xn at *
              generalize hxlc : x.lc = xlc at *
              clear hxo hxa hxb hxc hxk hxla hxl hxlc
              obtain ⟨M3, hmk3, row3⟩ := make_row (wr.alloc (.cells #[.int .i64 xop, .int .i64 xa, .int .i64 xb, .int .i64 xc, .int .i64 xk, .slice xla xn xlc] 59)) R (by omega)
              simp only [World.size_alloc] at hmk3 row3
              rw [show ((a + 1 : Nat) : Int) - 1 = (a : Int) by omega]
              go_upto_region 16 with fail
              have g1 : Fr [] wr (wr.alloc (.cells #[.int .i64 xop, .int .i64 xa, .int .i64 xb, .int .i64 xc, .int .i64 xk, .slice xla xn xlc] 59)) := (Fr.refl _ _).alloc _
              have b8 := heap_alloc_new wr (.cells #[.int .i64 xop, .int .i64 xa, .int .i64 xb, .int .i64 xc, .int .i64 xk, .slice xla xn xlc] 59)
              have g2 : Fr [] (wr.alloc (.cells #[.int .i64 xop, .int .i64 xa, .int .i64 xb, .int .i64 xc, .int .i64 xk, .slice xla xn xlc] 59)) ((wr.alloc (.cells #[.int .i64 xop, .int .i64 xa, .int .i64 xb, .int .i64 xc, .int .i64 xk, .slice xla xn xlc] 59)).alloc (.cells M3 4)) := (Fr.refl _ _).alloc _
              have G2 := g1.trans g2
              have B8 := g2.at b8 (by simp)
              have SM1 := HSM.out.fr G2 (by simp) (by simp)
              have HF1 : Hid (Fr [] w ((wr.alloc (.cells #[.int .i64 xop, .int .i64 xa, .int .i64 xb, .int .i64 xc, .int .i64 xk, .slice xla xn xlc] 59)).alloc (.cells M3 4))) := FW.out.trans G2
              have BW1 := G2.at BW.out (by simp)
              have HGI : Hid (w.heap.size + 1 < wr.heap.size ∧ ∀ i, i < p → rb i < wr.heap.size) := ⟨HSM.out.o.lt, fun i hi => (HSM.out.r i hi).lt⟩
              clear g1 b8 g2 G2 q0 q1 q2 q3 q4 q5 c3 HSM FW BW hmk3
              generalize (wr.alloc (.cells #[.int .i64 xop, .int .i64 xa, .int .i64 xb, .int .i64 xc, .int .i64 xk, .slice xla xn xlc] 59)).alloc (.cells M3 4) = X1 at *
              generalize wr.heap.size = c8 at *
              have p0 : X1.cell? ⟨w.heap.size, 0, none⟩ = some _ := at_cells BW1 0 rfl
              have p1 : X1.cell? ⟨w.heap.size, 1, none⟩ = some _ := at_cells BW1 1 rfl
              have p2 : X1.cell? ⟨w.heap.size, 2, none⟩ = some _ := at_cells BW1 2 rfl
              have p3 : X1.cell? ⟨w.heap.size, 3, none⟩ = some _ := at_cells BW1 3 rfl
              have C19' := C19 X1 HF1.out
              go_wp2_with fail
              with_reducible (refine C19'.mono ?_)
              rintro e X2 ⟨v2, rfl, ho2, f2⟩
              obtain ⟨va, vc, rfl, hvc, hvn⟩ := ho2.slice
              have SM2 : Hid (SM X2 (w.heap.size + 1) rb p R S') := SM1.fr f2 (by simp) (by simp)
              have BW2 : Hid (X2.heap[w.heap.size]? = some (.cells #[.string name, .int .i64 ps, .int .i64 rs, .slice (some ⟨b, o, none⟩) p cc] 24 (0, 0))) := f2.at BW1 (by simp)
              have B82 : Hid (X2.heap[c8]? = some (.cells #[.int .i64 xop, .int .i64 xa, .int .i64 xb, .int .i64 xc, .int .i64 xk, .slice xla xn xlc] 59 (0, 0))) := f2.at B8 (by simp)
              have HF22 : Hid (Fr [] w X2) := HF1.out.trans f2
              have NW2 : Hid (X2.rowIs (c8 + 1) 4 R (fun r => .bool ((fun _ => false : Nat → Bool) r))) := row3.of_block (f2.block _ row3.lt (by simp))
              have HO2 : Hid (OR X2 X1.heap.size (.slice va (nextL L a).length vc) (nextL L a)) := ho2
              have HX1 : Hid (c8 + 1 < X1.heap.size) := row3.lt
              clear p0 p1 p2 p3 C19' f2 SM1 BW1 B8 row3 HF1 ho2 C19 CN
              generalize hRN : nextL L a = RN at *
              have HRN : Hid (nextL L a = RN) := hRN
              clear hRN
              generalize hnr : RN.length = nr at *
              have HNR : Hid (RN.length = nr) := hnr
              have hnrI : (nr : Int) ≤ 2 := by have := HNL.out; omega
              clear hnr
              generalize hwx : wrI x = wx at *
              have HWX : Hid (wrI x = wx) := hwx
              clear hwx
              go_wp2
              go_loopw [57] (fun i wq => ∃ (j : Nat) (nw : Nat → Bool), j ≤ nr ∧ i = .int .i64 j ∧ Hid (wq.rowIs (c8 + 1) 4 R (fun r => .bool (nw r))) ∧ Hid (∀ r, r < R → (nw r = true ↔ ∃ k : Nat, (k : Int) ∈ RN.take j ∧ S' k r = true ∧ (r : Int) ≠ wx)) ∧ Hid (Fr [c8 + 1] X2 wq)) (fun i _ => nr - (intOf i).toNat)
              case atStart => exact ⟨0, _, Nat.zero_le _, rfl, NW2, (fun r _ => by simp), Fr.refl _ _⟩
              case round =>
                obtain ⟨j, nw, hj, rfl, NW, HN, FN⟩ := hrel
                have hnS : ∀ i, i < p → rb i ∉ [c8 + 1] := fun i hi hm => by have := HGI.out.2 i hi; simp at hm; omega
                by_cases hjl : j < nr
                · have hy : RN[j]? = some (RN[j]'(by rw [HNR.out]; exact hjl)) := List.getElem?_eq_getElem _
                  generalize RN[j]'(by rw [HNR.out]; exact hjl) = q at hy
                  obtain ⟨k, e, hk⟩ := HNX.out j q hy
                  subst e
                  have hkI : (k : Int) < p := by omega
                  obtain ⟨g, c9, e9, hcell, _, hgl⟩ := own_cells HO2.out (j := j) (x := .int .i64 (k : Int)) (by simp [hy])
                  have hg := HO2.out.lt g (by rw [e9]; rfl)
                  injection e9 with e9 e9b e9c
                  subst e9
                  clear e9b e9c
                  have hc := FN.out.cell1 hcell (by simp; have := HX1.out; omega)
                  have SMn : Hid (SM wr (w.heap.size + 1) rb p R S') := SM2.out.fr FN.out (by simp; have := HGI.out.1; omega) hnS
                  have hco := SMn.out.o.cell hk
                  have HTK : Hid (∀ z : Nat, (z : Int) ∈ RN.take (j + 1) ↔ (z : Int) ∈ RN.take j ∨ z = k) := fun z => by
                    rw [List.take_add_one, hy, List.mem_append]
                    simp only [Option.toList_some, List.mem_singleton]
                    constructor
                    · rintro (h | h)
                      · exact .inl h
                      · exact .inr (by omega)
                    · rintro (h | h)
                      · exact .inl h
                      · exact .inr (by omega)
                  clear hcell hy
                  go_wp2
                  go_loopw [66] (fun i wq => ∃ (q : Nat) (nw' : Nat → Bool), q ≤ R ∧ i = .int .i64 q ∧ Hid (wq.rowIs (c8 + 1) 4 R (fun r => .bool (nw' r))) ∧ Hid (∀ r, r < R → nw' r = if r < q then nw r || (S' k r && decide ((r : Int) ≠ wx)) else nw r) ∧ Hid (Fr [c8 + 1] X2 wq)) (fun i _ => R - (intOf i).toNat)
                  case atStart => exact ⟨0, nw, Nat.zero_le _, rfl, NW, (fun r _ => by simp), FN⟩
                  case round =>
                    clear hc hco SMn
                    obtain ⟨q, nw', hq, rfl, NW', HN', FN'⟩ := hrel
                    by_cases hql : q < R
                    · have hqI : (q : Int) < R := by omega
                      have SMq : Hid (SM wr (w.heap.size + 1) rb p R S') := SM2.out.fr FN'.out (by simp; have := HGI.out.1; omega) hnS
                      have e1 := (SMq.out.r k hk).cell hql
                      have e2 := NW'.out.cell hql
                      have fz := NW'.out.frozen q
                      have B8q := FN'.out.at B82.out (by simp)
                      have i0 : wr.cell? ⟨c8, 0, none⟩ = some _ := at_cells B8q 0 rfl
                      have i1 : wr.cell? ⟨c8, 1, none⟩ = some _ := at_cells B8q 1 rfl
                      have i2 : wr.cell? ⟨c8, 2, none⟩ = some _ := at_cells B8q 2 rfl
                      have i3 : wr.cell? ⟨c8, 3, none⟩ = some _ := at_cells B8q 3 rfl
                      have i4 : wr.cell? ⟨c8, 4, none⟩ = some _ := at_cells B8q 4 rfl
                      have i5 : wr.cell? ⟨c8, 5, none⟩ = some _ := at_cells B8q 5 rfl
                      have HNq : Hid (nw' q = nw q) := by have := HN'.out q hql; simp at this; exact this
                      have HNX' : Hid (∀ (b : Bool), (nw q || (S' k q && decide ((q : Int) ≠ wx))) = b → ∀ r, r < R → (if r = q then b else nw' r) = if r < q + 1 then nw r || (S' k r && decide ((r : Int) ≠ wx)) else nw r) := fun b hb r hr => by
                        by_cases e : r = q
                        · subst e
                          rw [if_pos rfl, if_pos (by omega), hb]
                        · rw [if_neg e, HN'.out r hr]
                          by_cases h : r < q
                          · rw [if_pos h, if_pos (by omega)]
                          · rw [if_neg h, if_neg (by omega)]
                      clear B8q SMq
                      cases hn1 : nw' q with
                      | true =>
                        rw [hn1] at e2
                        have HB : Hid _ := HNX'.out true (by rw [← HNq.out, hn1]; rfl)
                        have HR' : Hid ((wr.setCell ⟨c8 + 1, q, none⟩ (.bool true)).rowIs (c8 + 1) 4 R (fun r => .bool (if r = q then true else nw' r))) := (NW'.out.set q (.bool true)).congr (fun r _ => by split <;> rfl)
                        have HF' : Hid (Fr [c8 + 1] X2 (wr.setCell ⟨c8 + 1, q, none⟩ (.bool true))) := FN'.out.setCell (.inl (by simp)) _
                        clear hn1 HNX' HNq C20 C21
                        go_wp2
                        go_roundw
                        case rel => exact ⟨q + 1, _, hql, by go_num, HR', HB, HF'⟩
                        case measure => simp [intOf]; omega
                      | false =>
                        rw [hn1] at e2
                        have HFq : Hid (Fr [c8 + 1] X2 wr) := FN'
                        have HNW : Hid _ := NW'
                        cases hs1 : S' k q with
                        | false =>
                          rw [hs1] at e1
                          have HB : Hid _ := HNX'.out false (by rw [← HNq.out, hn1, hs1]; rfl)
                          have HR' : Hid ((wr.setCell ⟨c8 + 1, q, none⟩ (.bool false)).rowIs (c8 + 1) 4 R (fun r => .bool (if r = q then false else nw' r))) := (NW'.out.set q (.bool false)).congr (fun r _ => by split <;> rfl)
                          have HF' : Hid (Fr [c8 + 1] X2 (wr.setCell ⟨c8 + 1, q, none⟩ (.bool false))) := FN'.out.setCell (.inl (by simp)) _
                          clear hn1 HNX' HNq C20 C21 hs1
                          go_wp2
                          go_roundw
                          case rel => exact ⟨q + 1, _, hql, by go_num, HR', HB, HF'⟩
                          case measure => simp [intOf]; omega
                        | true =>
                          rw [hs1] at e1
                          have HB : Hid (∀ r, r < R → (if r = q then ((q : Int) != wx) else nw' r) = if r < q + 1 then nw r || (S' k r && decide ((r : Int) ≠ wx)) else nw r) := HNX'.out ((q : Int) != wx) (by
                            rw [← HNq.out, hn1, hs1]
                            by_cases e : (q : Int) = wx <;> simp [e])
                          clear hn1 HNX' HNq C21 hs1
                          go_wp2_with fail
                          with_reducible (refine (C20 _).mono ?_)
                          rintro e w5 ⟨rfl, f5⟩
                          have NW5 := HNW.out.of_block (f5.block _ HNW.out.lt (by simp))
                          have e25 := NW5.cell hql
                          have fz5 := NW5.frozen q
                          have HR' : Hid ((w5.setCell ⟨c8 + 1, q, none⟩ (.bool ((q : Int) != wx))).rowIs (c8 + 1) 4 R (fun r => .bool (if r = q then ((q : Int) != wx) else nw' r))) := (NW5.set q (.bool ((q : Int) != wx))).congr (fun r _ => by split <;> rfl)
                          have HF' : Hid (Fr [c8 + 1] X2 (w5.setCell ⟨c8 + 1, q, none⟩ (.bool ((q : Int) != wx)))) := (HFq.out.trans (f5.sub (by simp))).setCell (.inl (by simp)) _
                          clear NW5 f5 C20 i0 i1 i2 i3 i4 i5 e1 e2 fz
                          go_wp2
                          go_roundw
                          case rel => exact ⟨q + 1, _, hql, by go_num, HR', HB, HF'⟩
                          case measure => simp [intOf]; omega
                    · obtain rfl : q = R := by omega
                      have HNj : Hid (∀ r, r < q → (nw' r = true ↔ ∃ z : Nat, (z : Int) ∈ RN.take (j + 1) ∧ S' z r = true ∧ (r : Int) ≠ wx)) := fun r hr => by
                        rw [HN'.out r hr, if_pos hr]
                        simp only [Bool.or_eq_true, Bool.and_eq_true, decide_eq_true_eq]
                        rw [HN.out r hr]
                        constructor
                        · rintro (⟨z, h1, h2, h3⟩ | ⟨h1, h2⟩)
                          · exact ⟨z, (HTK.out z).2 (.inl h1), h2, h3⟩
                          · exact ⟨k, (HTK.out k).2 (.inr rfl), h1, h2⟩
                        · rintro ⟨z, h1, h2, h3⟩
                          rcases (HTK.out z).1 h1 with h4 | rfl
                          · exact .inl ⟨z, h4, h2, h3⟩
                          · exact .inr ⟨h2, h3⟩
                      clear HN HN' HTK
                      go_wp2
                      go_roundw
                      case rel => exact ⟨j + 1, nw', hjl, by go_num, NW', HNj, FN'⟩
                      case measure => simp [intOf]; omega
                · obtain rfl : j = nr := by omega
                  have HTJ : Hid (RN.take j = RN) := List.take_of_length_le (by rw [HNR.out]; exact Nat.le_refl _)
                  have B8q := FN.out.at B82.out (by simp)
                  have i0 : wr.cell? ⟨c8, 0, none⟩ = some _ := at_cells B8q 0 rfl
                  have i1 : wr.cell? ⟨c8, 1, none⟩ = some _ := at_cells B8q 1 rfl
                  have i2 : wr.cell? ⟨c8, 2, none⟩ = some _ := at_cells B8q 2 rfl
                  have i3 : wr.cell? ⟨c8, 3, none⟩ = some _ := at_cells B8q 3 rfl
                  have i4 : wr.cell? ⟨c8, 4, none⟩ = some _ := at_cells B8q 4 rfl
                  have i5 : wr.cell? ⟨c8, 5, none⟩ = some _ := at_cells B8q 5 rfl
                  have HFwr : Hid (Fr [] w wr) := ((HF22.out.sub (T := [c8 + 1]) (by simp)).trans FN.out).sub (fun k hk => .inr (by simp at hk; have := HGI.out.1; omega))
                  have C21' := C21 wr HFwr.out
                  clear B8q C21 C20
                  go_wp2_with fail
                  with_reducible (refine C21'.mono ?_)
                  rintro e X6 ⟨v6, rfl, ho6, f6⟩
                  obtain ⟨da, dc, rfl, hdc, hdn⟩ := ho6.slice
                  have HO6 : Hid (OR X6 wr.heap.size (.slice da (rdL x).length dc) (rdL x)) := ho6
                  have HFN6 : Hid (Fr [c8 + 1] X2 X6) := FN.out.trans (f6.sub (by simp))
                  have HNW6 : Hid (X6.rowIs (c8 + 1) 4 R (fun r => .bool (nw r))) := NW.out.of_block (f6.block _ NW.out.lt (by simp))
                  have HNL6 : Hid (c8 + 1 < wr.heap.size) := NW.out.lt
                  have HN6 : Hid (∀ r, r < R → (nw r = true ↔ (∃ k : Nat, (k : Int) ∈ RN ∧ S' k r = true ∧ (r : Int) ≠ wx) ∨ (r : Int) ∈ (rdL x).take 0)) := fun r hr => by
                    rw [HN.out r hr, HTJ.out]
                    simp
                  have HRDl : Hid ((rdL x).length ≤ 9223372036854775807) := by have := ho6.len9; unfold Hid; omega
                  clear ho6 f6 C21' i0 i1 i2 i3 i4 i5 NW HN FN HO2 NW2
                  generalize hrd : rdL x = RD at *
                  have HRD : Hid (rdL x = RD) := hrd
                  clear hrd
                  generalize hnd : RD.length = nd at *
                  have HND : Hid (RD.length = nd) := hnd
                  have hndI : (nd : Int) ≤ 9223372036854775807 := by have := HRDl.out; omega
                  clear hnd
                  generalize wr.heap.size = w6 at *
                  go_wp2
                  go_loopw [92] (fun i wq => ∃ (j : Nat) (nw : Nat → Bool), j ≤ nd ∧ i = .int .i64 j ∧ Hid (wq.rowIs (c8 + 1) 4 R (fun r => .bool (nw r))) ∧ Hid (∀ r, r < R → (nw r = true ↔ (∃ k : Nat, (k : Int) ∈ RN ∧ S' k r = true ∧ (r : Int) ≠ wx) ∨ (r : Int) ∈ RD.take j)) ∧ Hid (Fr [c8 + 1] X6 wq)) (fun i _ => nd - (intOf i).toNat)
                  case atStart => exact ⟨0, _, Nat.zero_le _, rfl, HNW6, HN6, Fr.refl _ _⟩
                  case round =>
                    clear HNW6 HN6
                    obtain ⟨j, nw, hj, rfl, NW, HN, FN⟩ := hrel
                    by_cases hjl : j < nd
                    · have hy : RD[j]? = some (RD[j]'(by rw [HND.out]; exact hjl)) := List.getElem?_eq_getElem _
                      generalize RD[j]'(by rw [HND.out]; exact hjl) = q at hy
                      obtain ⟨g, c9, e9, hcell, _, hgl⟩ := own_cells HO6.out (j := j) (x := .int .i64 q) (by simp [hy])
                      have hg := HO6.out.lt g (by rw [e9]; rfl)
                      injection e9 with e9 e9b e9c
                      subst e9
                      clear e9b e9c
                      have hc := FN.out.cell1 hcell (by simp; have := HNL6.out; omega)
                      have HTK : Hid (∀ z : Int, z ∈ RD.take (j + 1) ↔ z ∈ RD.take j ∨ z = q) := fun z => by
                        rw [List.take_add_one, hy, List.mem_append]
                        simp only [Option.toList_some, List.mem_singleton]
                      clear hcell hy
                      by_cases h0 : 0 ≤ q
                      · by_cases h1 : q < R
                        · obtain ⟨n, rfl⟩ := Int.eq_ofNat_of_zero_le h0
                          have hnR : n < R := by omega
                          have e2 := NW.out.cell hnR
                          have fz := NW.out.frozen n
                          have HR' : Hid ((wr.setCell ⟨c8 + 1, n, none⟩ (.bool true)).rowIs (c8 + 1) 4 R (fun r => .bool (if r = n then true else nw r))) := (NW.out.set n (.bool true)).congr (fun r _ => by split <;> rfl)
                          have HF' : Hid (Fr [c8 + 1] X6 (wr.setCell ⟨c8 + 1, n, none⟩ (.bool true))) := FN.out.setCell (.inl (by simp)) _
                          have HB : Hid (∀ r, r < R → ((if r = n then true else nw r) = true ↔ (∃ k : Nat, (k : Int) ∈ RN ∧ S' k r = true ∧ (r : Int) ≠ wx) ∨ (r : Int) ∈ RD.take (j + 1))) := fun r hr => by
                            rw [HTK.out]
                            by_cases e : r = n
                            · subst e; simp
                            · rw [if_neg e, HN.out r hr]
                              constructor
                              · rintro (h | h)
                                · exact .inl h
                                · exact .inr (.inl h)
                              · rintro (h | h | h)
                                · exact .inl h
                                · exact .inr h
                                · exact absurd (by omega) e
                          clear NW HN HTK
                          go_wp2
                          go_roundw
                          case rel => exact ⟨j + 1, _, hjl, by go_num, HR', HB, HF'⟩
                          case measure => simp [intOf]; omega
                        · have HB : Hid (∀ r, r < R → (nw r = true ↔ (∃ k : Nat, (k : Int) ∈ RN ∧ S' k r = true ∧ (r : Int) ≠ wx) ∨ (r : Int) ∈ RD.take (j + 1))) := fun r hr => by
                            rw [HTK.out, HN.out r hr]
                            constructor
                            · rintro (h | h)
                              · exact .inl h
                              · exact .inr (.inl h)
                            · rintro (h | h | h)
                              · exact .inl h
                              · exact .inr h
                              · omega
                          have hd1 : decide (q < (R : Int)) = false := by simpa using h1
                          clear HN HTK
                          go_wp2
                          go_roundw
                          case rel => exact ⟨j + 1, nw, hjl, by go_num, NW, HB, FN⟩
                          case measure => simp [intOf]; omega
                      · have HB : Hid (∀ r, r < R → (nw r = true ↔ (∃ k : Nat, (k : Int) ∈ RN ∧ S' k r = true ∧ (r : Int) ≠ wx) ∨ (r : Int) ∈ RD.take (j + 1))) := fun r hr => by
                          rw [HTK.out, HN.out r hr]
                          constructor
                          · rintro (h | h)
                            · exact .inl h
                            · exact .inr (.inl h)
                          · rintro (h | h | h)
                            · exact .inl h
                            · exact .inr h
                            · omega
                        have hd1 : decide (0 ≤ q) = false := by simpa using h0
                        clear HN HTK
                        go_wp2
                        go_roundw
                        case rel => exact ⟨j + 1, nw, hjl, by go_num, NW, HB, FN⟩
                        case measure => simp [intOf]; omega
                    · obtain rfl : j = nd := by omega
                      have HNF : Hid (∀ r, r < R → (nw r = true ↔ nowP L S' a x r)) := fun r hr => by
                        rw [HN.out r hr, List.take_of_length_le (by rw [HND.out]; exact Nat.le_refl _)]
                        unfold nowP
                        rw [HRN.out, HWX.out, HRD.out]
                      have HF7 : Hid (Fr [c8 + 1] X2 wr) := HFN6.out.trans FN.out
                      have hnS : ∀ i, i < p → rb i ∉ [c8 + 1] := fun i hi hm => by have := HGI.out.2 i hi; simp at hm; omega
                      have HSM7 : Hid (SM wr (w.heap.size + 1) rb p R (joinR S' a nw 0)) := by
                        unfold Hid
                        rw [joinR_0]
                        exact SM2.out.fr HF7.out (by simp; have := HGI.out.1; omega) hnS
                      have HFw7 : Hid (Fr [] w wr) := ((HF22.out.sub (T := [c8 + 1]) (by simp)).trans HF7.out).sub (fun k hk => .inr (by simp at hk; have := HGI.out.1; omega))
                      have HBW7 : Hid (wr.heap[w.heap.size]? = some (.cells #[.string name, .int .i64 ps, .int .i64 rs, .slice (some ⟨b, o, none⟩) p cc] 24 (0, 0))) := HF7.out.at BW2.out (by simp; have := HGI.out.1; omega)
                      clear HN FN HFN6 HO6 SM2 BW2 B82 HF22
                      go_wp2
                      go_loopw [6, 109] (fun u i wq => ∃ q : Nat, q ≤ R ∧ u = .bool (m || grew S' a nw q) ∧ i = .int .i64 q ∧ Hid (SM wq (w.heap.size + 1) rb p R (joinR S' a nw q)) ∧ Hid (wq.rowIs (c8 + 1) 4 R (fun r => .bool (nw r))) ∧ Hid (Fr [] w wq) ∧ Hid (wq.heap[w.heap.size]? = some (.cells #[.string name, .int .i64 ps, .int .i64 rs, .slice (some ⟨b, o, none⟩) p cc] 24 (0, 0)))) (fun _ i _ => R - (intOf i).toNat)
                      case atStart => exact ⟨0, Nat.zero_le _, by simp [grew], rfl, HSM7, NW, HFw7, HBW7⟩
                      case round =>
                        clear HSM7 NW HFw7 HBW7 HF7
                        obtain ⟨q, hq, rfl, rfl, SMq, NWq, FWq, BWq⟩ := hrel
                        by_cases hql : q < R
                        · have hqI : (q : Int) < R := by omega
                          have e1 := NWq.out.cell hql
                          have e2 := SMq.out.o.cell hap
                          have e3 := (SMq.out.r a hap).cell hql
                          have fz := (SMq.out.r a hap).frozen q
                          have hj0 : joinR S' a nw q a q = S' a q := by simp [joinR]
                          have HGS : Hid _ := grew_succ S' a nw q
                          rw [hj0] at e3
                          clear hj0
                          cases hn1 : nw q with
                          | false =>
                            rw [hn1] at e1
                            have HG1 : Hid (grew S' a nw (q + 1) = grew S' a nw q) := by unfold Hid; rw [HGS.out, hn1]; simp
                            have HS1 : Hid (SM wr (w.heap.size + 1) rb p R (joinR S' a nw (q + 1))) := by
                              have : joinR S' a nw (q + 1) = joinR S' a nw q := by
                                funext i r
                                unfold joinR
                                by_cases h : i = a ∧ r < q
                                · rw [if_pos ⟨h.1, by omega⟩, if_pos h]
                                · rw [if_neg h]
                                  split
                                  · rename_i h2
                                    obtain ⟨rfl, h3⟩ := h2
                                    have : r = q := by omega
                                    subst this
                                    rw [hn1]; simp
                                  · rfl
                              unfold Hid
                              rw [this]
                              exact SMq.out
                            generalize grew S' a nw q = gq at *
                            clear hn1 HGS
                            go_wp2
                            go_roundw
                            case rel => exact ⟨q + 1, hql, by rw [HG1.out], by go_num, HS1, NWq, FWq, BWq⟩
                            case measure => simp [intOf]; omega
                          | true =>
                            rw [hn1] at e1
                            cases hs1 : S' a q with
                            | true =>
                              rw [hs1] at e3
                              have HG1 : Hid (grew S' a nw (q + 1) = grew S' a nw q) := by unfold Hid; rw [HGS.out, hn1, hs1]; simp
                              have HS1 : Hid (SM wr (w.heap.size + 1) rb p R (joinR S' a nw (q + 1))) := by
                                have : joinR S' a nw (q + 1) = joinR S' a nw q := by
                                  funext i r
                                  unfold joinR
                                  by_cases h : i = a ∧ r < q
                                  · rw [if_pos ⟨h.1, by omega⟩, if_pos h]
                                  · rw [if_neg h]
                                    split
                                    · rename_i h2
                                      obtain ⟨rfl, h3⟩ := h2
                                      have : r = q := by omega
                                      subst this
                                      rw [hs1]; simp
                                    · rfl
                                unfold Hid
                                rw [this]
                                exact SMq.out
                              generalize grew S' a nw q = gq at *
                              clear hn1 HGS hs1
                              go_wp2
                              go_roundw
                              case rel => exact ⟨q + 1, hql, by rw [HG1.out], by go_num, HS1, NWq, FWq, BWq⟩
                              case measure => simp [intOf]; omega
                            | false =>
                              rw [hs1] at e3
                              have HG1 : Hid ((m || grew S' a nw (q + 1)) = true) := by unfold Hid; rw [HGS.out, hn1, hs1]; simp
                              have HS1 : Hid (SM (wr.setCell ⟨rb a, q, none⟩ (.bool true)) (w.heap.size + 1) rb p R (joinR S' a nw (q + 1))) := SMq.out.set hap true (fun i r => by
                                unfold joinR
                                by_cases h : i = a ∧ r = q
                                · rw [if_pos h, if_pos ⟨h.1, by omega⟩, h.1, h.2, hn1]; simp
                                · rw [if_neg h]
                                  by_cases h2 : i = a ∧ r < q
                                  · rw [if_pos h2, if_pos ⟨h2.1, by omega⟩]
                                  · rw [if_neg h2, if_neg (fun h3 => by
                                      rcases Nat.lt_or_eq_of_le (Nat.le_of_lt_succ h3.2) with h4 | h4
                                      · exact h2 ⟨h3.1, h4⟩
                                      · exact h ⟨h3.1, h4⟩)])
                              have hrc : rb a ≠ c8 + 1 := by have := HGI.out.2 a hap; omega
                              have HN1 : Hid ((wr.setCell ⟨rb a, q, none⟩ (.bool true)).rowIs (c8 + 1) 4 R (fun r => .bool (nw r))) := NWq.out.setOther (fun e => hrc e.symm) _
                              have HF1 : Hid (Fr [] w (wr.setCell ⟨rb a, q, none⟩ (.bool true))) := FWq.out.setCell (.inr (by have := (HRB.out a).1; simp; omega)) _
                              have HB1' : Hid ((wr.setCell ⟨rb a, q, none⟩ (.bool true)).heap[w.heap.size]? = some (.cells #[.string name, .int .i64 ps, .int .i64 rs, .slice (some ⟨b, o, none⟩) p cc] 24 (0, 0))) := (Below.heap_setCell _ _ _ _ (by have := (HRB.out a).1; simp; omega)).trans BWq.out
                              generalize grew S' a nw q = gq at *
                              clear hn1 HGS hs1 hrc
                              go_wp2
                              go_roundw
                              case rel => exact ⟨q + 1, hql, by rw [HG1.out], by go_num, HS1, HN1, HF1, HB1'⟩
                              case measure => simp [intOf]; omega
                        · obtain rfl : q = R := by omega
                          have HSO2 : Hid (soundS L rs (joinR S' a nw q)) := by
                            have h1 := sound_join HSO.out HX.out (nw := nw) (fun r hr h => (HNF.out r (by rw [HRR.out] at hr; exact hr)).1 h)
                            rw [HRR.out] at h1
                            exact h1
                          have HCS : Hid (cntF q p S' ≤ cntF q p S) := by
                            unfold Hid
                            cases m with
                            | true => exact Nat.le_of_lt (HC.out rfl)
                            | false => rw [(HD.out rfl).1]; exact Nat.le_refl _
                          have HC2 : Hid ((m || grew S' a nw q) = true → cntF q p (joinR S' a nw q) < cntF q p S) := fun h => by
                            cases hg : grew S' a nw q with
                            | true =>
                              obtain ⟨z, h1, h2, h3⟩ := grew_yes hg
                              exact Nat.lt_of_lt_of_le (cntF_lt h1 h2 h3 p hap) HCS.out
                            | false =>
                              rw [hg, Bool.or_false] at h
                              rw [joinR_same (grew_no hg)]
                              exact HC.out h
                          have HD2 : Hid ((m || grew S' a nw q) = false → joinR S' a nw q = S ∧ ∀ i, a ≤ i → i < p → shutS L rs S i) := fun h => by
                            have h1 : m = false := by cases m <;> simp at h ⊢
                            have h2 : grew S' a nw q = false := by cases hg : grew S' a nw q <;> simp [hg, h1] at h ⊢
                            obtain ⟨e1, e2⟩ := HD.out h1
                            have e3 := joinR_same (grew_no h2)
                            refine ⟨by rw [e3, e1], fun i hi1 hi2 => ?_⟩
                            by_cases e : i = a
                            · subst e
                              intro y r hy hr hnp
                              have : y = x := by rw [HX.out] at hy; injection hy with hy; exact hy.symm
                              subst this
                              rw [HRR.out] at hr
                              rw [← e1] at hnp ⊢
                              exact grew_no h2 r hr ((HNF.out r hr).2 hnp)
                            · exact e2 i (by omega) hi2
                          generalize (m || grew S' a nw q) = m2 at *
                          clear HC HD HCS HSO
                          go_wp2
                          go_roundw
                          case rel => exact ⟨m2, a, _, rfl, by go_num, by omega, SMq, HSO2, FWq, BWq, HC2, HD2⟩
                          case measure => simp [intOf]
end Go.Proofs.YtajdnakpljgkpaaDoor
