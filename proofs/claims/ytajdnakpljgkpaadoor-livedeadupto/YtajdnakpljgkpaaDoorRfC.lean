/-
  Which instructions make what nobody wants, by the document's own text; conditions: the function lies as told.
-/
import Derived.Test.YtajdnakpljgkpaaDoorLwP
import Derived.Deep.Cut
namespace Go.Proofs.YtajdnakpljgkpaaDoor
open Go.RowKit
set_option linter.unusedVariables false
set_option linter.unusedSimpArgs false

/-- Whether one of the next ones wants it. -/
def wantS (S : Nat → Nat → Bool) (r : Nat) (ks : List Int) : Bool := ks.any fun k => S k.toNat r
theorem wantS_take {S : Nat → Nat → Bool} {r : Nat} {ks : List Int} {p : Nat} {k : Int} (h : ks[p]? = some k) : wantS S r (ks.take (p + 1)) = (wantS S r (ks.take p) || S k.toNat r) := by
  unfold wantS
  rw [List.take_add_one, h, List.any_append]
  simp

/-- What it answers. -/
def RDeadOut (L : List In) (rs : Int) (N R : Nat) (w : World) (e : Ending) (w' : World) : Prop := ∃ v S, e = .returned v ∧ OR w' w.heap.size v (rdeadN S L rs N) ∧ Least L rs (fun i r => r < R ∧ S i r = true) ∧ Fr [] w w'
set_option maxRecDepth 100000 in
set_option maxHeartbeats 8000000 in
theorem rdead_any (B : Nat) (f : Fu) (w : World) (hf : FuOk B w f) (hB : B ≤ w.heap.size) (hN : f.code.length ≤ 2000000) (hl : ∀ x ∈ f.code, x.l.length ≤ 8000000000000) :
    Calls Tryd.prog 13 #[.agg f.arr] w (RDeadOut f.code f.rs f.code.length (regN f.rs) w) := by
  have HF : Hid (FuOk B w f) := hf
  have f1 : Fr [] w (w.alloc (.cells f.arr 24)) := (Fr.refl _ _).alloc _
  have b1 := heap_alloc_new w (.cells f.arr 24)
  have C24 := sets_any B f _ (hf.fr f1 (by simp)) (Nat.le_trans hB f1.size) hN hl
  have CN := fun (d : Nat) (w' : World) (fr : Fr [] w w') => rnext_any B f d w' (hf.fr fr (by simp)) (Nat.le_trans hB fr.size)
  have HF1 : Hid (Fr [] w (w.alloc (.cells f.arr 24))) := f1
  have hNI : (f.code.length : Int) ≤ 2000000 := by omega
  have hRl := regN_le f.rs
  have HRC : Hid (∀ r : Nat, cnt f.rs r ↔ r < regN f.rs) := reg_cnt f.rs
  obtain ⟨name, ps, rs, ca, cc, L⟩ := f
  unfold Fu.arr at *
  simp only at *
  generalize hn : L.length = N at *
  have HL : Hid (L.length = N) := hn
  generalize regN rs = R at *
  have hRI : (R : Int) ≤ 1000 := by omega
  clear f1 hf hn hl
  go_enter Tryd.func13, Tryd.ntmps13
  go_wp2_with fail
  with_reducible (refine C24.mono ?_)
  rintro e X0 ⟨gi, rb, S, rfl, hsm, hle, f3⟩
  have HSM : Hid (SM X0 gi rb N R S) := hsm
  have HLe : Hid (Least L rs (fun i r => r < R ∧ S i r = true)) := hle
  have HFX : Hid (Fr [] w X0) := HF1.out.trans f3
  have HWX : Hid (w.heap.size ≤ X0.heap.size) := HFX.out.size
  have HB0 : Hid (X0.heap[w.heap.size]? = some (.cells #[.string name, .int .i64 ps, .int .i64 rs, .slice ca N cc] 24 (0, 0))) := f3.at b1 (by simp)
  have c3 : X0.cell? ⟨w.heap.size, 3, none⟩ = some (.slice ca N cc) := at_cells HB0.out 3 rfl
  clear hsm hle f3 C24 HF1 b1
  go_wp2
  clear c3
  go_loopw [4, 16] (fun v i wr => ∃ d : Nat, d ≤ N ∧ i = .int .i64 d ∧ Hid (OR wr X0.heap.size v (rdeadN S L rs d)) ∧ Hid (Fr [] X0 wr)) (fun _ i _ => N - (intOf i).toNat)
  case atStart => exact ⟨0, Nat.zero_le _, rfl, OR.nil _ _, Fr.refl _ _⟩
  case round =>
    obtain ⟨d, hd, rfl, HO, FX⟩ := hrel
    obtain ⟨va, vc, rfl, hvc, hvn⟩ := HO.out.slice
    by_cases hlt : d < N
    · have hdI : (d : Int) < N := by omega
      have HWS : Hid (X0.heap.size ≤ wr.heap.size) := FX.out.size
      have hx : L[d]? = some (L[d]'(by rw [HL.out]; exact hlt)) := List.getElem?_eq_getElem _
      generalize L[d]'(by rw [HL.out]; exact hlt) = x at hx
      obtain ⟨b, o, rfl, hb, hI⟩ := (HF.out.fr (HFX.out.trans FX.out) (by simp)).k d x hx
      have q0 := hI.c0
      have q1 := hI.c1
      have q2 := hI.c2
      have q3 := hI.c3
      have q4 := hI.c4
      have q5 := hI.c5
      have C20 := fun (w' : World) => rwrites_any x w'
      rw [rwr_eq] at C20
      have HDS : Hid _ := rdeadN_succ S L rs d
      have HDL : Hid ((rdeadN S L rs d).length ≤ 2000000) := by have := rdeadN_len S L rs d; unfold Hid; omega
      have HDR : Hid (deadR S L rs d = (decide (cnt rs (wrI x)) && !wantS S (wrI x).toNat (nextL L d))) := by unfold Hid deadR wantS; rw [hx]
      have HNX : Hid (∀ (j : Nat) (q : Int), (nextL L d)[j]? = some q → ∃ k : Nat, q = (k : Int) ∧ k < N) := fun j q hq => by
        obtain ⟨k, e, hk⟩ := next_in (List.mem_of_getElem? hq)
        rw [HL.out] at hk
        exact ⟨k, e, hk⟩
      have HNL : Hid ((nextL L d).length ≤ 2) := next_len L d
      have C19 := fun (w' : World) (fr : Fr [] w w') => CN d w' fr
      rw [rnext_same] at C19
      clear hI hx
      unfold In.arr at C20
      generalize hwx : wrI x = wx at *
      clear hwx
      generalize hxo : x.op = xop at *
      generalize hxa : x.a = xa at *
      generalize hxb : x.b = xb at *
      generalize hxc : x.c = xc at *
      generalize hxk : x.k = xk at *
      generalize hxla : x.la = xla at *
      generalize hxl : x.l.length = xn at *
      generalize hxlc : x.lc = xlc at *
      clear hxo hxa hxb hxc hxk hxla hxl hxlc
      go_upto_region 6 with fail
      have g1 : Fr [] wr (wr.alloc (.cells #[.int .i64 xop, .int .i64 xa, .int .i64 xb, .int .i64 xc, .int .i64 xk, .slice xla xn xlc] 59)) := (Fr.refl _ _).alloc _
      have b8 := heap_alloc_new wr (.cells #[.int .i64 xop, .int .i64 xa, .int .i64 xb, .int .i64 xc, .int .i64 xk, .slice xla xn xlc] 59)
      have FX1 : Hid (Fr [] X0 (wr.alloc (.cells #[.int .i64 xop, .int .i64 xa, .int .i64 xb, .int .i64 xc, .int .i64 xk, .slice xla xn xlc] 59))) := FX.out.trans g1
      have HO1 : Hid (OR (wr.alloc (.cells #[.int .i64 xop, .int .i64 xa, .int .i64 xb, .int .i64 xc, .int .i64 xk, .slice xla xn xlc] 59)) X0.heap.size (.slice va (rdeadN S L rs d).length vc) (rdeadN S L rs d)) := HO.out.fr g1 (by simp)
      clear g1 q0 q1 q2 q3 q4 q5 HO FX
      generalize wr.alloc (.cells #[.int .i64 xop, .int .i64 xa, .int .i64 xb, .int .i64 xc, .int .i64 xk, .slice xla xn xlc] 59) = X1 at *
      generalize wr.heap.size = c8 at *
      have i0 : X1.cell? ⟨c8, 0, none⟩ = some _ := at_cells b8 0 rfl
      have i1 : X1.cell? ⟨c8, 1, none⟩ = some _ := at_cells b8 1 rfl
      have i2 : X1.cell? ⟨c8, 2, none⟩ = some _ := at_cells b8 2 rfl
      have i3 : X1.cell? ⟨c8, 3, none⟩ = some _ := at_cells b8 3 rfl
      have i4 : X1.cell? ⟨c8, 4, none⟩ = some _ := at_cells b8 4 rfl
      have i5 : X1.cell? ⟨c8, 5, none⟩ = some _ := at_cells b8 5 rfl
      have C20' := C20 X1
      go_wp2_with fail
      with_reducible (refine C20'.mono ?_)
      rintro e X2 ⟨rfl, f2⟩
      have FX2 : Hid (Fr [] X0 X2) := FX1.out.trans f2
      have HO2 : Hid (OR X2 X0.heap.size (.slice va (rdeadN S L rs d).length vc) (rdeadN S L rs d)) := HO1.out.fr f2 (by simp)
      have B2 := FX2.out.at HB0.out (by simp)
      have p0 : X2.cell? ⟨w.heap.size, 0, none⟩ = some _ := at_cells B2 0 rfl
      have p1 : X2.cell? ⟨w.heap.size, 1, none⟩ = some _ := at_cells B2 1 rfl
      have p2 : X2.cell? ⟨w.heap.size, 2, none⟩ = some _ := at_cells B2 2 rfl
      have p3 : X2.cell? ⟨w.heap.size, 3, none⟩ = some _ := at_cells B2 3 rfl
      clear C20 C20' i0 i1 i2 i3 i4 i5 b8 f2 FX1 HO1 B2
      by_cases hc : cnt rs wx
      · obtain ⟨r, rfl⟩ : ∃ r : Nat, wx = (r : Int) := ⟨wx.toNat, by have := hc.1; omega⟩
        have hrR : r < R := (HRC.out r).1 hc
        have hrI : (r : Int) < R := by omega
        have h1 : (r : Int) < rs := hc.2.1
        have h2 : (r : Int) < 1000 := hc.2.2
        have HDR2 : Hid (deadR S L rs d = !wantS S r (nextL L d)) := by
          unfold Hid
          rw [HDR.out]
          simp [hc]
        obtain ⟨mn, hmn⟩ : ∃ mn : Int, (if (1000 : Int) < rs then (1000 : Int) else rs) = mn := ⟨_, rfl⟩
        have hrm : (r : Int) < mn := by rw [← hmn]; split <;> omega
        have C19' := C19 X2 (HFX.out.trans FX2.out)
        clear hc HDR
        go_wp2_with fail
        with_reducible (refine C19'.mono ?_)
        rintro e X3 ⟨v3, rfl, ho3, f3⟩
        obtain ⟨ua, uc, rfl, huc, hun⟩ := ho3.slice
        have FX3 : Hid (Fr [] X0 X3) := FX2.out.trans f3
        have HO3 : Hid (OR X3 X0.heap.size (.slice va (rdeadN S L rs d).length vc) (rdeadN S L rs d)) := HO2.out.fr f3 (by simp)
        have HON : Hid (OR X3 X2.heap.size (.slice ua (nextL L d).length uc) (nextL L d)) := ho3
        clear p0 p1 p2 p3 C19' f3 ho3 C19 CN hmn hrm h1 h2 HO2 FX2
        generalize hRN : nextL L d = RN at *
        clear hRN
        generalize hnr : RN.length = nr at *
        have HNR : Hid (RN.length = nr) := hnr
        have hnrI : (nr : Int) ≤ 2 := by have := HNL.out; omega
        clear hnr
        go_wp2
        go_loopw [8, 36] (fun bv i wq => ∃ (j : Nat), j ≤ nr ∧ i = .int .i64 j ∧ bv = .bool (wantS S r (RN.take j)) ∧ Hid (Fr [] X3 wq)) (fun _ i _ => nr - (intOf i).toNat)
        case atStart => exact ⟨0, Nat.zero_le _, rfl, by simp [wantS], Fr.refl _ _⟩
        case round =>
          obtain ⟨j, hj, rfl, rfl, FN⟩ := hrel
          by_cases hjl : j < nr
          · have hjI : (j : Int) < nr := by omega
            have hy : RN[j]? = some (RN[j]'(by rw [HNR.out]; exact hjl)) := List.getElem?_eq_getElem _
            generalize RN[j]'(by rw [HNR.out]; exact hjl) = q at hy
            obtain ⟨k, e, hk⟩ := HNX.out j q hy
            subst e
            have hkI : (k : Int) < N := by omega
            obtain ⟨g, c9, e9, hcell, _, hgl⟩ := own_cells HON.out (j := j) (x := .int .i64 (k : Int)) (by simp [hy])
            injection e9 with e9 e9b e9c
            subst e9
            clear e9b e9c
            have hcc := FN.out.cell1 hcell (by simp)
            have SMn := HSM.out.fr (FX3.out.trans FN.out) (by simp) (by simp)
            have hco := SMn.o.cell hk
            have hcr := (SMn.r k hk).cell hrR
            have HWT : Hid _ := wantS_take (S := S) (r := r) hy
            clear hcell hy SMn
            cases hb0 : wantS S r (RN.take j) with
            | true =>
              have HB : Hid (wantS S r (RN.take (j + 1)) = true) := by unfold Hid; rw [HWT.out, hb0]; rfl
              clear hb0 HWT
              go_wp2
              go_roundw
              case rel => exact ⟨j + 1, hjl, by go_num, by rw [HB.out], FN⟩
              case measure => simp [intOf]; omega
            | false =>
              have HB : Hid (wantS S r (RN.take (j + 1)) = S k r) := by unfold Hid; rw [HWT.out, hb0]; simp
              clear hb0 HWT
              go_wp2
              go_roundw
              case rel => exact ⟨j + 1, hjl, by go_num, by rw [HB.out], FN⟩
              case measure => simp [intOf]; omega
          · obtain rfl : j = nr := by omega
            have HTK : Hid (RN.take j = RN) := by unfold Hid; rw [← HNR.out, List.take_length]
            have HFXr : Hid (Fr [] X0 wr) := FX3.out.trans FN.out
            have ho : OR wr X0.heap.size (.slice va (rdeadN S L rs d).length vc) (rdeadN S L rs d) := HO3.out.fr FN.out (by simp)
            have HOr : Hid (OR wr X0.heap.size (.slice va (rdeadN S L rs d).length vc) (rdeadN S L rs d)) := ho
            rw [HTK.out]
            cases hbw : wantS S r RN with
            | true =>
              have HDE : Hid (rdeadN S L rs (d + 1) = rdeadN S L rs d) := by
                unfold Hid
                rw [HDS.out, HDR2.out, hbw]
                simp
              clear ho hbw HDR2 HDS
              go_wp2
              go_roundw
              case rel => exact ⟨d + 1, hlt, by go_num, (by unfold Hid; rw [HDE.out]; exact HOr.out), HFXr⟩
              case measure => simp [intOf]; omega
            | false =>
              have HDE : Hid (rdeadN S L rs (d + 1) = rdeadN S L rs d ++ [(d : Int)]) := by
                unfold Hid
                rw [HDS.out, HDR2.out, hbw]
                simp
              have hlo := ho.lt
              have HX2 : Hid (X0.heap.size ≤ wr.heap.size) := HFXr.out.size
              obtain ⟨i3, hi3, hz3, hs3, hb3⟩ := info_parts info3
              unfold OR at ho
              clear hbw HDR2 HDS HO3 HOr
              generalize rdeadN S L rs d = K at *
              have hKI : (K.length : Int) ≤ 2000000 := by have := HDL.out; omega
              go_wp2_with (at_builtin; refine wpList_append_src _ rfl _ _ 30 rfl X0.heap.size 3 i3 (.int .i64 0) 1 8 Tryd.underlying30 hi3 hz3 hs3 hb3 rfl (by decide) (.slice va K.length vc) K.length (K.map (Value.int .i64)) rfl (ho.alloc _) (some ⟨wr.heap.size, 0, none⟩) 1 1 [.int .i64 d] rfl rfl (by simp) (fun ad h => by cases h; exact one_new wr _) (by simp [Value.oneCell']) (by have := HDL.out; unfold maxLen; omega) (by have := HDL.out; omega) (by have := HX2.out; simp; omega) ?_)
              intro v3 w3 ho3 hg hl
              have f3 : Fr (Value.slice va K.length vc).ownBlock.toList wr w3 := ((Fr.refl _ _).alloc _).trans (Fr.ofGrown hg)
              have O3 : Hid (OR w3 X0.heap.size v3 (rdeadN S L rs (d + 1))) := by unfold Hid OR; rw [HDE.out]; simpa using ho3
              have F3 : Hid (Fr [] X0 w3) := ((HFXr.out.sub (T := (Value.slice va K.length vc).ownBlock.toList) (by simp)).trans f3).sub (fun k hk => .inr (hlo k (by simpa using hk)).1)
              clear ho3 hg hl f3 ho hlo
              go_wp2
              go_roundw
              case rel => exact ⟨d + 1, hlt, by go_num, O3, F3⟩
              case measure => simp [intOf]; omega
      · have HDE : Hid (rdeadN S L rs (d + 1) = rdeadN S L rs d) := by
          unfold Hid
          rw [HDS.out, HDR.out]
          simp [hc]
        by_cases h0 : wx < 0
        · clear hc HDS HDR C19 CN p0 p1 p3
          go_wp2
          go_roundw
          case rel => exact ⟨d + 1, hlt, by go_num, (by unfold Hid; rw [HDE.out]; exact HO2.out), FX2⟩
          case measure => simp [intOf]; omega
        · obtain ⟨mn, hmn⟩ : ∃ mn : Int, (if (1000 : Int) < rs then (1000 : Int) else rs) = mn := ⟨_, rfl⟩
          have hrm : mn ≤ wx := by rw [← hmn]; unfold cnt at hc; split <;> omega
          clear hc HDS HDR C19 CN p0 p1 p3
          go_wp2
          go_roundw
          case rel => exact ⟨d + 1, hlt, by go_num, (by unfold Hid; rw [HDE.out]; exact HO2.out), FX2⟩
          case measure => simp [intOf]; omega
    · obtain rfl : d = N := by omega
      have HFE : Hid (Fr [] w wr) := HFX.out.trans FX.out
      have HL2 : Hid (OR wr w.heap.size (.slice va (rdeadN S L rs d).length vc) (rdeadN S L rs d)) := own_low HO.out HWX.out
      go_wp2
      go_ret
      exact ⟨_, S, rfl, HL2.out, HLe.out, HFE.out⟩
end Go.Proofs.YtajdnakpljgkpaaDoor
