/-
  The reckoning as a whole, by the program: the least sets; conditions: the function lies as told, the tables as the program's text lays them.
-/
import Derived.Test.YtajdnakpljgkpaaDoorLvV
namespace Go.Proofs.YtajdnakpljgkpaaDoor
open Go.RowKit
set_option linter.unusedVariables false
set_option linter.unusedSimpArgs false

/-- Places as they are answered. -/
structure PlAt (w : World) (bp : Nat) (L : List In) (rs : Int) (P : Nat → Pl) : Prop where
  row : w.rowIs bp 69 (L.length * 19) (plc P)
  ok : ∀ i, i < L.length → okS (P i).s
  least : Least L rs (fun i r => hasS (P i).s r = true)
  wr : ∀ (i : Nat) (x : In), L[i]? = some x → (P i).wr = wrB rs x

theorem RK.start {W : World} {bp br base N : Nat} (row : W.rowIs bp 69 (N * 19) (plc (fun _ => p0))) (rc : W.heap[br]? = some (.cells #[.slice (some ⟨bp, 0, none⟩) N N, .slice none 0 0] 100 (0, 0))) (h1 : bp < base) (h2 : br < base) (h3 : bp ≠ br) (h4 : base ≤ W.heap.size) : RK W bp br base N (fun _ => p0) (.slice none 0 0) [] :=
  ⟨row, rc, OR.nil _ _, fun i _ => OR.nil _ _, fun i k _ h => by simp [frV, p0, Value.ownBlock] at h, fun i j k _ _ _ h => by simp [frV, p0, Value.ownBlock] at h, h1, h2, h3, h4⟩
theorem range_snoc (d : Nat) : (List.range d).map (fun i : Nat => (i : Int)) ++ [(d : Int)] = (List.range (d + 1)).map (fun i : Nat => (i : Int)) := by
  rw [List.range_succ, List.map_append]
  rfl

set_option maxRecDepth 100000 in
set_option maxHeartbeats 8000000 in
theorem reckoned_any (B : Nat) (f : Fu) (w : World) (hf : FuOk B w f) (hB : B ≤ w.heap.size) (hN : f.code.length ≤ 2000000) (hl : ∀ x ∈ f.code, x.l.length ≤ 8000000000000) (T : Tabs w) :
    Calls Tryd.prog 22 #[.agg f.arr] w fun e w' => ∃ bp P, e = .returned (.slice (some ⟨bp, 0, none⟩) f.code.length f.code.length) ∧ PlAt w' bp f.code f.rs P ∧ w.heap.size ≤ bp ∧ Fr [] w w' := by
  have HF : Hid (FuOk B w f) := hf
  have f1 : Fr [] w (w.alloc (.cells f.arr 24)) := (Fr.refl _ _).alloc _
  have b1 := heap_alloc_new w (.cells f.arr 24)
  have f2 : Fr [] (w.alloc (.cells f.arr 24)) ((w.alloc (.cells f.arr 24)).alloc (.cells (plM f.code.length) 69)) := (Fr.refl _ _).alloc _
  have row0 := row_pl (w.alloc (.cells f.arr 24)) f.code.length
  have B1 := f2.at b1 (by simp)
  have hmk := make_pl (w.alloc (.cells f.arr 24)) f.code.length hN
  have F2 := f1.trans f2
  have hkc := hf.kc
  have hNI : (f.code.length : Int) ≤ 2000000 := by omega
  have CN := fun (d : Nat) (w' : World) (fr : Fr [] w w') => next_any B f d w' (hf.fr fr (by simp)) (Nat.le_trans hB fr.size)
  simp only [World.size_alloc] at row0 hmk
  obtain ⟨name, ps, rs, ca, cc, L⟩ := f
  unfold Fu.arr at *
  simp only at *
  generalize hn : L.length = N at *
  have HL : Hid (L.length = N) := hn
  generalize hM : plM N = M at *
  have HT : Hid (Tabs w) := T
  have HHL : Hid (∀ x ∈ L, x.l.length ≤ 8000000000000) := hl
  clear hf T f1 f2 hn hM hl b1
  go_enter Tryd.func22, Tryd.ntmps22
  go_upto_region 2 with fail
  have f3 : Fr [] ((w.alloc (.cells #[.string name, .int .i64 ps, .int .i64 rs, .slice ca N cc] 24)).alloc (.cells M 69)) (((w.alloc (.cells #[.string name, .int .i64 ps, .int .i64 rs, .slice ca N cc] 24)).alloc (.cells M 69)).alloc (.cells #[.slice (some ⟨w.heap.size + 1, 0, none⟩) N N, .slice none 0 0] 100)) := (Fr.refl _ _).alloc _
  have b3 := heap_alloc_new ((w.alloc (.cells #[.string name, .int .i64 ps, .int .i64 rs, .slice ca N cc] 24)).alloc (.cells M 69)) (.cells #[.slice (some ⟨w.heap.size + 1, 0, none⟩) N N, .slice none 0 0] 100)
  have hsz : (((w.alloc (.cells #[.string name, .int .i64 ps, .int .i64 rs, .slice ca N cc] 24)).alloc (.cells M 69)).alloc (.cells #[.slice (some ⟨w.heap.size + 1, 0, none⟩) N N, .slice none 0 0] 100)).heap.size = w.heap.size + 3 := by simp
  simp only [World.size_alloc] at b3
  have B1' := f3.at B1 (by simp)
  have row1 := row0.of_block (f3.block _ row0.lt (by simp))
  have F3 := F2.trans f3
  have HR0 : Hid _ := RK.start row1 b3 (base := w.heap.size + 3) (by omega) (by omega) (by omega) (by omega)
  have HF3 : Hid (Fr [] w _) := F3
  clear hmk row0 B1 F2 f3 b3 row1 F3 hsz
  generalize ((w.alloc (.cells #[.string name, .int .i64 ps, .int .i64 rs, .slice ca N cc] 24)).alloc (.cells M 69)).alloc (.cells #[.slice (some ⟨w.heap.size + 1, 0, none⟩) N N, .slice none 0 0] 100) = W at *
  have c3 : W.cell? ⟨w.heap.size, 3, none⟩ = some (.slice ca N cc) := at_cells B1' 3 rfl
  have HB1 : Hid (W.heap[w.heap.size]? = some (.cells #[.string name, .int .i64 ps, .int .i64 rs, .slice ca N cc] 24 (0, 0))) := B1'
  clear B1'
  have HS0 : Hid (SetUp L rs 0 (fun _ => p0)) := SetUp.start (fun i _ => ⟨rfl, okS.zero, rfl⟩)
  go_wp2
  go_loopw [16] (fun i wr => ∃ (d : Nat) (P : Nat → Pl) (wv : Value), d ≤ N ∧ i = .int .i64 d ∧ Hid (RK wr (w.heap.size + 1) (w.heap.size + 2) (w.heap.size + 3) N P wv ((List.range d).map (fun i : Nat => (i : Int)))) ∧ Hid (SetUp L rs d P) ∧ Hid (Kp (w.heap.size + 1) (w.heap.size + 2) (w.heap.size + 3) W wr)) (fun i _ => N - (intOf i).toNat)
  case atStart => exact ⟨0, _, _, by omega, rfl, HR0, HS0, Kp.refl _ _ _ _⟩
  case round =>
    obtain ⟨d, P, wv, hd, rfl, R, S, KP⟩ := hrel
    have HFW : Hid (Fr [] w wr) := Kp.fr HF3.out KP.out (by omega) (by omega) (by omega)
    have BW : Hid (wr.heap[w.heap.size]? = some (.cells #[.string name, .int .i64 ps, .int .i64 rs, .slice ca N cc] 24 (0, 0))) := KP.out.at HB1.out (by omega) (by omega) (by omega)
    clear c3
    by_cases hlt : d < N
    · have hx : L[d]? = some (L[d]'(by rw [HL.out]; exact hlt)) := List.getElem?_eq_getElem _
      generalize L[d]'(by rw [HL.out]; exact hlt) = x at hx
      have HX : Hid (L[d]? = some x) := hx
      obtain ⟨b, o, rfl, hb, hI⟩ := (HF.out.fr HFW.out (by simp)).k d x hx
      have q0 := hI.c0
      have q1 := hI.c1
      have q2 := hI.c2
      have q3 := hI.c3
      have q4 := hI.c4
      have q5 := hI.c5
      have HXO : Hid (InOk B w x) := by
        obtain ⟨b', o', _, _, hI'⟩ := HF.out.k d x hx
        exact hI'.ok
      have HXL : Hid (x.l.length ≤ 8000000000000) := HHL.out x (List.mem_of_getElem? hx)
      have hdI : (d : Int) < N := by omega
      have C41 := fun (w' : World) (fr : Fr [] w w') => readBy_any B x rs w' (HXO.out.fr fr (by simp)) (Nat.le_trans hB fr.size) HXL.out (HT.out.fr fr (by simp))
      have C42 := fun (w' : World) (fr : Fr [] w w') => writtenBy_any B x rs w' (HXO.out.fr fr (by simp)) (Nat.le_trans hB fr.size) HXL.out (HT.out.fr fr (by simp))
      have HHalf : Hid _ := S.out.half x hx
      clear hI hx
      generalize hrs : rdS rs (rdL x) = sR at *
      generalize hwb : wrB rs x = wB at *
      have HRS : Hid _ := hrs
      have HWB : Hid _ := hwb
      clear hrs hwb
      unfold In.arr at C41 C42
      generalize x.op = xop at *
      generalize x.a = xa at *
      generalize x.b = xb at *
      generalize x.c = xc at *
      generalize x.k = xk at *
      generalize x.la = xla at *
      generalize x.l.length = xn at *
      generalize x.lc = xlc at *
      go_upto_region 5 with fail
      have f4 : Fr [] wr (wr.alloc (.cells #[.int .i64 xop, .int .i64 xa, .int .i64 xb, .int .i64 xc, .int .i64 xk, .slice xla xn xlc] 59)) := (Fr.refl _ _).alloc _
      have b5 := heap_alloc_new wr (.cells #[.int .i64 xop, .int .i64 xa, .int .i64 xb, .int .i64 xc, .int .i64 xk, .slice xla xn xlc] 59)
      have hsw : w.heap.size + 3 ≤ wr.heap.size := R.out.le
      have R4 : Hid _ := R.out.fr f4
      have BW4 : Hid _ := f4.at BW.out (by simp)
      have HF4 : Hid _ := f4
      have HB5 : Hid _ := b5
      clear q0 q1 q2 q3 q4 q5 f4 b5 BW
      generalize wr.alloc (.cells #[.int .i64 xop, .int .i64 xa, .int .i64 xb, .int .i64 xc, .int .i64 xk, .slice xla xn xlc] 59) = X at *
      have cellF : ∀ (k i : Nat) (c : Array Value) (t : TypeId) (v : Value), X.heap[k]? = some (.cells c t (0, 0)) → c[i]? = some v → k ≠ w.heap.size + 1 → ∀ w', Fr [w.heap.size + 1] X w' → w'.cell? ⟨k, i, none⟩ = some v := fun k i c t v hk hi hne w' f => f.cell1 (at_cells hk i hi) (by simpa using hne)
      refine reg5 (cellF _ 0 _ _ _ R4.out.rc rfl (by omega)) (cellF _ 0 _ _ _ HB5.out rfl (by omega)) (cellF _ 1 _ _ _ HB5.out rfl (by omega)) (cellF _ 2 _ _ _ HB5.out rfl (by omega)) (cellF _ 3 _ _ _ HB5.out rfl (by omega)) (cellF _ 4 _ _ _ HB5.out rfl (by omega)) (cellF _ 5 _ _ _ HB5.out rfl (by omega)) (cellF _ 2 _ _ _ BW4.out rfl (by omega)) (fun w' fr => C41 w' ((HFW.out.trans HF4.out).trans fr)) (fun w' fr => (R4.out.fr fr).there hlt) hdI hNI ?_
      intro n21 n22 n23 n24 n25 n26 n27 n28 n29 X2 fx2
      have R5 : Hid _ := (R4.out.fr fx2).set_s d sR
      have FX5 : Hid (Fr [w.heap.size + 1] X (X2.setCells (w.heap.size + 1) (d * 19) (setL sR))) := Fr.setCells _ _ (fx2.sub (by simp)) (.inl (by simp))
      clear C41 fx2
      generalize X2.setCells (w.heap.size + 1) (d * 19) (setL sR) = X5 at *
      have BW5 : Hid _ := FX5.out.at BW4.out (by simp)
      have HB5' : Hid _ := FX5.out.at HB5.out (by simp; omega)
      have K5 : Hid (Kp (w.heap.size + 1) (w.heap.size + 2) (w.heap.size + 3) W X5) := (KP.out.trans (HF4.out.kp R.out.le (by simp))).trans (FX5.out.kp R4.out.le (by simp))
      have HFW5 : Hid (Fr [] w X5) := Kp.fr HF3.out K5.out (by omega) (by omega) (by omega)
      go_upto_region 6 with fail
      have cellF5 : ∀ (k i : Nat) (c : Array Value) (t : TypeId) (v : Value), X5.heap[k]? = some (.cells c t (0, 0)) → c[i]? = some v → k ≠ w.heap.size + 1 → ∀ w', Fr [w.heap.size + 1] X5 w' → w'.cell? ⟨k, i, none⟩ = some v := fun k i c t v hk hi hne w' f => f.cell1 (at_cells hk i hi) (by simpa using hne)
      refine reg6 (cellF5 _ 0 _ _ _ R5.out.rc rfl (by omega)) (cellF5 _ 0 _ _ _ HB5'.out rfl (by omega)) (cellF5 _ 1 _ _ _ HB5'.out rfl (by omega)) (cellF5 _ 2 _ _ _ HB5'.out rfl (by omega)) (cellF5 _ 3 _ _ _ HB5'.out rfl (by omega)) (cellF5 _ 4 _ _ _ HB5'.out rfl (by omega)) (cellF5 _ 5 _ _ _ HB5'.out rfl (by omega)) (cellF5 _ 2 _ _ _ BW5.out rfl (by omega)) (fun w' fr => C42 w' (HFW5.out.trans fr)) (fun w' fr => (R5.out.fr fr).wrc hlt) (fun w' fr => (R5.out.fr fr).row.frozen _) hdI hNI ?_
      intro n30 n31 n32 n33 n34 n35 n36 n37 n38 X6 fx6
      have R6 := (R5.out.fr fx6).set_wr d wB
      have K6 : Kp (w.heap.size + 1) (w.heap.size + 2) (w.heap.size + 3) W (X6.setCell ⟨w.heap.size + 1, d * 19 + 16, none⟩ (.int .i64 wB)) := K5.out.trans (Fr.kp (S := [w.heap.size + 1]) ((fx6.sub (by simp)).setCell (.inl (by simp)) _) R5.out.le (by simp))
      have e7 : upd (upd P d { P d with s := sR }) d { upd P d { P d with s := sR } d with wr := wB } = upd P d { P d with s := sR, wr := wB } := by
        funext i
        by_cases e : i = d
        · subst e; rw [upd_at, upd_at, upd_at]
        · rw [upd_ne _ _ e, upd_ne _ _ e, upd_ne _ _ e]
      rw [e7] at R6
      clear e7 C42 cellF cellF5 fx6 FX5 BW4 HB5 HB5' R4 R5 HF4 K5 HFW5 BW5
      generalize X6.setCell ⟨w.heap.size + 1, d * 19 + 16, none⟩ (.int .i64 wB) = X7 at *
      generalize upd P d { P d with s := sR, wr := wB } = P7 at *
      have HR7 : Hid _ := R6
      have HK7 : Hid _ := K6
      have BW7 := K6.at HB1.out (by omega) (by omega) (by omega)
      have HF7 : Hid (Fr [] w X7) := Kp.fr HF3.out K6 (by omega) (by omega) (by omega)
      have c0 : X7.cell? ⟨w.heap.size, 0, none⟩ = some _ := at_cells BW7 0 rfl
      have c1 : X7.cell? ⟨w.heap.size, 1, none⟩ = some _ := at_cells BW7 1 rfl
      have c2 : X7.cell? ⟨w.heap.size, 2, none⟩ = some _ := at_cells BW7 2 rfl
      have c3 : X7.cell? ⟨w.heap.size, 3, none⟩ = some _ := at_cells BW7 3 rfl
      have C26 := CN d X7 HF7.out
      have HNL := next_len L d
      clear R6 K6 BW7 HR0 HS0
      go_wp2_with fail
      with_reducible (refine C26.mono ?_)
      rintro e X8 ⟨v8, rfl, ho8, f8⟩
      obtain ⟨va, vc, rfl, hvc, hvn⟩ := ho8.slice
      have HR8 : Hid _ := HR7.out.fr f8
      have HK8 : Hid (Kp (w.heap.size + 1) (w.heap.size + 2) (w.heap.size + 3) W X8) := HK7.out.trans (f8.kp HR7.out.le (by simp))
      have HO8 : Hid (OR X8 X7.heap.size (.slice va (nextL L d).length vc) (nextL L d)) := ho8
      have H78 : Hid (w.heap.size + 3 ≤ X7.heap.size ∧ X7.heap.size ≤ X8.heap.size) := ⟨HR7.out.le, f8.size⟩
      have HOW : Hid (∀ i k, i < N → (frV (P7 i)).ownBlock = some k → k < X7.heap.size ∨ X8.heap.size ≤ k) := fun i k hi hk => .inl ((HR7.out.fo i hi).lt k hk).2
      have HNX : Hid (∀ (j : Nat) (q : Int), (nextL L d)[j]? = some q → ∃ k : Nat, q = (k : Int) ∧ k < N) := fun j q hq => by
        obtain ⟨k, e, hk⟩ := next_in (List.mem_of_getElem? hq)
        rw [HL.out] at hk
        exact ⟨k, e, hk⟩
      have HHalf' : Hid (Half L rs d 0 P7) := HHalf
      have HSt : Hid (∀ (j : Nat) (P' : Nat → Pl) (k : Nat) (fa : Option Addr) (fc : Nat), Half L rs d j P' → (nextL L d)[j]? = some (k : Int) → Half L rs d (j + 1) (upd P' k { P' k with fa := fa, fc := fc, fr := (P' k).fr ++ [(d : Int)] })) := fun j P' k fa fc h hk => h.step hk fa fc
      have HDn : Hid (∀ (P' : Nat → Pl), Half L rs d (nextL L d).length P' → SetUp L rs (d + 1) (upd P' d { P' d with wt := true })) := fun P' h => h.done (Nat.le_refl _) (next_len L d)
      generalize nextL L d = RR at *
      generalize hrr : RR.length = nr at *
      have HRR : Hid (RR.length = nr) := hrr
      clear hrr c0 c1 c2 c3 C26 f8 ho8 HR7 HK7 HF7 HHalf S R HRS HWB HX KP HFW HXO HXL
      go_wp2
      have HKr : Hid (Kp (w.heap.size + 1) (w.heap.size + 2) (w.heap.size + 3) W X8) := HK8
      go_loopw [43] (fun i wq => ∃ (j : Nat) (P' : Nat → Pl), j ≤ nr ∧ i = .int .i64 j ∧ Hid (RK wq (w.heap.size + 1) (w.heap.size + 2) (w.heap.size + 3) N P' wv ((List.range d).map (fun i : Nat => (i : Int)))) ∧ Hid (Half L rs d j P') ∧ Hid (Kp (w.heap.size + 1) (w.heap.size + 2) (w.heap.size + 3) W wq) ∧ Hid (X8.heap.size ≤ wq.heap.size ∧ ∀ k, X7.heap.size ≤ k → k < X8.heap.size → wq.heap[k]? = X8.heap[k]?) ∧ Hid (∀ i k, i < N → (frV (P' i)).ownBlock = some k → k < X7.heap.size ∨ X8.heap.size ≤ k)) (fun i _ => nr - (intOf i).toNat)
      case atStart => exact ⟨0, P7, by omega, rfl, HR8, HHalf', HK8, ⟨Nat.le_refl _, fun _ _ _ => rfl⟩, HOW⟩
      case round =>
        obtain ⟨j, P', hj, rfl, Rq, Hq, Kq, Bq, Oq⟩ := hrel
        by_cases hjl : j < nr
        · have hy : RR[j]? = some (RR[j]'(by rw [HRR.out]; exact hjl)) := List.getElem?_eq_getElem _
          generalize RR[j]'(by rw [HRR.out]; exact hjl) = q at hy
          obtain ⟨k, e, hk⟩ := HNX.out j q hy
          subst e
          have hkI : (k : Int) < N := by omega
          obtain ⟨g, c9, e9, hcell, _, _⟩ := own_cells HO8.out (j := j) (x := .int .i64 (k : Int)) (by simp [hy])
          have hg := HO8.out.lt g (by rw [e9]; rfl)
          injection e9 with e9 _ _
          subst e9
          have hc : wr.cell? ⟨g, j, none⟩ = some (.int .i64 (k : Int)) := by
            unfold World.cell? at hcell ⊢
            rw [Bq.out.2 g hg.1 hg.2]
            exact hcell
          have ho := Rq.out.fo k hk
          have hfn : (P' k).fr.length ≤ 10000000000 := by have := Hq.out.fl k (by rw [HL.out]; exact hk); omega
          have hbp : w.heap.size + 1 ∉ (frV (P' k)).ownBlock.toList := fun hm => by have := (ho.lt _ (by simpa using hm)).1; omega
          have hbr : w.heap.size + 2 ∉ (frV (P' k)).ownBlock.toList := fun hm => by have := (ho.lt _ (by simpa using hm)).1; omega
          have cc0 : ∀ w', Fr ((w.heap.size + 1) :: (Value.slice (P' k).fa (P' k).fr.length (P' k).fc).ownBlock.toList) wr w' → w'.cell? ⟨w.heap.size + 2, 0, none⟩ = some (.slice (some ⟨w.heap.size + 1, 0, none⟩) N N) := fun w' f => f.cell1 (at_cells Rq.out.rc 0 rfl) (by
            intro hm
            rcases List.mem_cons.1 hm with h1 | h1
            · simp at h1
            · exact hbr h1)
          have ccf : ∀ w', Fr [] wr w' → w'.cell? ⟨w.heap.size + 1, k * 19 + 17, none⟩ = some (.slice (P' k).fa (P' k).fr.length (P' k).fc) := fun w' f => (Rq.out.fr f).frc hk
          have ccg : ∀ w', Fr (Value.slice (P' k).fa (P' k).fr.length (P' k).fc).ownBlock.toList wr w' → w'.cell? ⟨w.heap.size + 1, k * 19 + 17, none⟩ = some (.slice (P' k).fa (P' k).fr.length (P' k).fc) := fun w' f => f.cell1 (Rq.out.frc hk) hbp
          have ccz : ∀ w', Fr (Value.slice (P' k).fa (P' k).fr.length (P' k).fc).ownBlock.toList wr w' → w'.frozen? ⟨w.heap.size + 1, k * 19 + 17, none⟩ = false := fun w' f => (Rq.out.row.of_block (f.block _ Rq.out.row.lt hbp)).frozen _
          go_upto_region 10 with fail
          refine reg10 ho Rq.out.le cc0 ccf ccg ccz hfn hkI hNI ?_
          intro n47 n48 n49 n50 n51 n52 n53 n54 n55 n56 n57 n58 n59 n60 X9 fa' fc' f9 ho9 hl9
          have RN := Rq.out.from_ hk (w1 := X9) (fa := fa') (fc := fc') (q := (d : Int)) f9 (by unfold OR; simpa using ho9) hl9
          have RN1 : Hid _ := RN.1
          have KN1 : Hid _ := Kq.out.trans RN.2
          have HN1 : Hid _ := HSt.out j P' k fa' fc' Hq.out hy
          have BN1 : Hid (X8.heap.size ≤ (X9.setCell ⟨w.heap.size + 1, k * 19 + 17, none⟩ (.slice fa' ((P' k).fr.length + 1) fc')).heap.size ∧ ∀ g, X7.heap.size ≤ g → g < X8.heap.size → (X9.setCell ⟨w.heap.size + 1, k * 19 + 17, none⟩ (.slice fa' ((P' k).fr.length + 1) fc')).heap[g]? = X8.heap[g]?) := by
            have f10 : Fr [w.heap.size + 1] X9 (X9.setCell ⟨w.heap.size + 1, k * 19 + 17, none⟩ (.slice fa' ((P' k).fr.length + 1) fc')) := (Fr.refl _ _).setCell (.inl (by simp)) _
            refine ⟨Nat.le_trans Bq.out.1 (Nat.le_trans f9.size f10.size), fun g h1 h2 => ?_⟩
            have h3 := H78.out
            have h4 := Bq.out.1
            rw [f10.block g (Nat.lt_of_lt_of_le (by omega) f9.size) (by simp; omega), f9.block g (by omega) (fun hm => by
              rcases Oq.out k g hk (by rw [Option.mem_toList] at hm; exact hm) with h5 | h5 <;> omega)]
            exact Bq.out.2 g h1 h2
          have ON1 : Hid (∀ i g, i < N → (frV (upd P' k { P' k with fa := fa', fc := fc', fr := (P' k).fr ++ [(d : Int)] } i)).ownBlock = some g → g < X7.heap.size ∨ X8.heap.size ≤ g) := fun i g hi hg => by
            by_cases e : i = k
            · subst e
              rw [upd_at] at hg
              rcases hl9 g (by simpa [frV] using hg) with h5 | h5
              · exact Oq.out i g hi h5
              · exact .inr (Nat.le_trans Bq.out.1 h5)
            · rw [upd_ne _ _ e] at hg
              exact Oq.out i g hi hg
          clear RN cc0 ccf ccg ccz hc hcell ho hbp hbr f9 ho9 hl9 Rq Kq Bq Oq Hq
          go_wp2
          go_roundw
          case rel => exact ⟨j + 1, _, hjl, by go_num, RN1, HN1, KN1, BN1, ON1⟩
          case measure => simp [intOf]; omega
        · obtain rfl : j = nr := by omega
          have S9 : Hid _ := HDn.out P' (by have := HRR.out; subst this; exact Hq.out)
          have C43 := wait_any _ _ _ _ N P' wv _ d Rq.out hlt hN (by simp; omega)
          rw [Hq.out.hi d (Nat.le_refl _) (by rw [HL.out]; exact hlt)] at C43
          simp only [Bool.false_eq_true, if_false] at C43
          rw [range_snoc] at C43
          clear HO8 HSt HDn HNX
          go_wp2_with fail
          with_reducible (refine C43.mono ?_)
          rintro e X9 ⟨rfl, v9, R9, K9⟩
          have HR9 : Hid _ := R9
          have HK9 : Hid _ := Kq.out.trans K9
          clear R9 K9 C43
          go_wp2
          go_roundw
          case rel =>
            refine ⟨_, _, _, _, _, _, _, _, _, _, _, _, _, _, _, _, _, _, _, _, _, _, _, _, _, _, _, _, _, _, _, _, _, _, _, _, _, _, _, _, _, _, _, _, _, _, _, _, _, _, _, _, ?_, rfl⟩
            exact ⟨d + 1, _, v9, hlt, by go_num, HR9, S9, HK9⟩
          case measure => simp [intOf]; omega
    · obtain rfl : d = N := by omega
      have SN : SetUp L rs L.length P := by rw [HL.out]; exact S.out
      have HI0 : Hid (Inv L rs L.length (P L.length).fr.length P ((List.range d).map (fun i : Nat => (i : Int)))) := by
        have I1 := SN.inv L.length
        have e : (List.range L.length).map (fun i : Nat => (i : Int)) = (List.range d).map (fun i : Nat => (i : Int)) := by rw [HL.out]
        rw [e] at I1
        refine ⟨I1.ok, I1.nd, I1.wt, I1.tw, I1.snd, I1.rd, I1.wr, I1.frm, I1.frc, fun n k hn hk hw _ => ?_⟩
        obtain ⟨m, e, hm⟩ := next_in hk
        have : k = m := by omega
        subst this
        rw [HL.out] at hm
        have := S.out.lo k hm
        rw [this] at hw
        cases hw
      have HM0 : Hid (left d P ((List.range d).map (fun i : Nat => (i : Int))) ≤ 2049 * d) := by
        unfold Hid left
        have := tot_most P d
        simp
        omega
      clear SN S CN HS0 HR0
      go_wp2
      go_loopg [68] (2049 * d) (fun g u wr => ∃ (P : Nat → Pl) (wv : Value) (Wt : List Int) (a : Nat), Hid (RK wr (w.heap.size + 1) (w.heap.size + 2) (w.heap.size + 3) d P wv Wt) ∧ Hid (Inv L rs a (P a).fr.length P Wt) ∧ Hid (left d P Wt ≤ g) ∧ Hid (g ≤ 2049 * d) ∧ Hid (Kp (w.heap.size + 1) (w.heap.size + 2) (w.heap.size + 3) W wr))
      case atStart => exact ⟨P, wv, _, L.length, R, HI0, HM0, Nat.le_refl _, KP⟩
      case round =>
        obtain ⟨P', wv', Wt, a, Rg, Ig, Lg, Gg, Kg⟩ := hrel
        obtain ⟨wa, wc, rfl, hwc, hwn⟩ := Rg.out.wo.slice
        have c0 : wr.cell? ⟨w.heap.size + 2, 0, none⟩ = some (.slice (some ⟨w.heap.size + 1, 0, none⟩) d d) := at_cells Rg.out.rc 0 rfl
        have c1 : wr.cell? ⟨w.heap.size + 2, 1, none⟩ = some (.slice wa Wt.length wc) := at_cells Rg.out.rc 1 rfl
        have hWl : Wt.length ≤ 9000000000 := by
          have h1 := Lg.out
          have h2 := Gg.out
          unfold left at h1
          omega
        have hWI : (Wt.length : Int) ≤ 9000000000 := by omega
        rcases List.eq_nil_or_concat Wt with rfl | ⟨l, q, e⟩
        · have HP : Hid (PlAt wr (w.heap.size + 1) L rs P') := by
            have h2 := Rg.out.row
            rw [← HL.out] at h2
            exact ⟨h2, Ig.out.ok, Ig.out.least, Ig.out.wr⟩
          have HFE : Hid (Fr [] w wr) := Kp.fr HF3.out Kg.out (by omega) (by omega) (by omega)
          clear hWI hWl
          go_wp2
          go_ret
          exact ⟨_, P', rfl, HP.out, by omega, HFE.out⟩
        · rw [List.concat_eq_append] at e
          have HE : Hid (Wt = l ++ [q]) := e
          have hpos : (0 : Int) < Wt.length := by rw [e]; simp only [List.length_append, List.length_cons, List.length_nil]; omega
          have Ig2 := Ig.out
          rw [e] at Ig2
          obtain ⟨n, e2, hn, I3⟩ := Ig2.take
          subst e2
          rw [HL.out] at hn
          have Rg2 := Rg.out
          rw [e] at Rg2
          have C45 := take_any wr _ _ _ d P' _ l n Rg2 hn hN (by rw [e] at hWl; simp at hWl; omega)
          have HI3 : Hid _ := I3
          have HL3 : Hid (left d (upd P' n { P' n with wt := false }) l < gk) := by
            have h1 := Lg.out
            unfold Hid
            unfold left at h1 ⊢
            rw [e] at h1
            simp at h1
            have h3 : tot d (upd P' n { P' n with wt := false }) = tot d P' := tot_congr d (fun i hi => by
              by_cases e : i = n
              · subst e; rw [upd_at]
              · rw [upd_ne _ _ e])
            omega
          clear Ig2 I3 Rg2 e
          go_wp2_with fail
          refine C45.mono ?_
          rintro e w4 ⟨rfl, v4, R4, K4⟩
          have R4' := R4
          rw [← HL.out] at R4' hn hN
          have C44 := tell_any L rs w4 _ _ _ _ v4 l n R4' HI3.out hn hN (by
            have h1 := HL3.out
            have h2 := Gg.out
            rw [HL.out]
            omega)
          rw [HL.out] at C44
          have HK4 : Hid _ := Kg.out.trans K4
          clear C45 R4 K4 R4' c0 c1
          go_wp2_with fail
          refine C44.mono ?_
          rintro e w5 ⟨rfl, P5, v5, Wt5, R5, I5, L5, K5⟩
          have HR5 : Hid _ := R5
          have HI5 : Hid _ := I5
          have HL5 : Hid _ := L5
          have HK5 : Hid _ := HK4.out.trans K5
          clear C44 R5 I5 L5 K5
          go_wp2
          go_roundg (left d (upd P' n { P' n with wt := false }) l)
          case measure => exact HL3.out
          case rel => exact ⟨P5, v5, Wt5, n, HR5, HI5, HL5, Nat.le_trans (Nat.le_of_lt HL3.out) Gg.out, HK5⟩
end Go.Proofs.YtajdnakpljgkpaaDoor
