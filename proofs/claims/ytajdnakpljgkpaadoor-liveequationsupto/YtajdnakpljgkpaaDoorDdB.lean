/-
  Which instructions write what nobody wants, by the program, as a whole; conditions: the function lies as told, the tables as the program's text lays them.
-/
import Derived.Test.YtajdnakpljgkpaaDoorDdR
import Derived.BigQuiet
namespace Go.Proofs.YtajdnakpljgkpaaDoor
open Go.RowKit
set_option linter.unusedVariables false
set_option linter.unusedSimpArgs false

def deadB (P : Nat → Pl) (L : List In) (i : Nat) : Bool := ((P i).wr != -1) && !wantB P (P i).wr (nextL L i)
def deadN (P : Nat → Pl) (L : List In) (n : Nat) : List Int := ((List.range n).filter (deadB P L)).map (fun i : Nat => (i : Int))
theorem deadN_succ (P : Nat → Pl) (L : List In) (n : Nat) : deadN P L (n + 1) = deadN P L n ++ (if deadB P L n = true then [(n : Int)] else []) := by
  unfold deadN
  rw [List.range_succ, List.filter_append, List.map_append]
  congr 1
  by_cases h : deadB P L n = true
  · simp [h]
  · simp [h]
theorem deadN_len (P : Nat → Pl) (L : List In) (n : Nat) : (deadN P L n).length ≤ n := by
  unfold deadN
  have := List.length_filter_le (deadB P L) (List.range n)
  simpa using this

set_option maxRecDepth 100000 in
set_option maxHeartbeats 8000000 in
theorem dead_any (B : Nat) (f : Fu) (w : World) (hf : FuOk B w f) (hB : B ≤ w.heap.size) (hN : f.code.length ≤ 2000000) (hl : ∀ x ∈ f.code, x.l.length ≤ 8000000000000) (T : Tabs w) :
    Calls Tryd.prog 12 #[.agg f.arr] w fun e w' => ∃ v P, e = .returned v ∧ OR w' w.heap.size v (deadN P f.code f.code.length) ∧ Least f.code f.rs (fun i r => hasS (P i).s r = true) ∧ (∀ (i : Nat) (x : In), f.code[i]? = some x → (P i).wr = wrB f.rs x) ∧ Fr [] w w' := by
  have f1 : Fr [] w (w.alloc (.cells f.arr 24)) := (Fr.refl _ _).alloc _
  have b1 := heap_alloc_new w (.cells f.arr 24)
  have C22 := reckoned_any B f _ (hf.fr f1 (by simp)) (Nat.le_trans hB f1.size) hN hl (T.fr f1 (by simp))
  have CN := fun (d : Nat) (w' : World) (fr : Fr [] w w') => next_any B f d w' (hf.fr fr (by simp)) (Nat.le_trans hB fr.size)
  have hNI : (f.code.length : Int) ≤ 2000000 := by omega
  have HF1 : Hid _ := f1
  obtain ⟨name, ps, rs, ca, cc, L⟩ := f
  unfold Fu.arr at *
  simp only at *
  generalize hn : L.length = N at *
  have HL : Hid (L.length = N) := hn
  clear hf T f1 hn hl
  go_enter Tryd.func12, Tryd.ntmps12
  go_wp2_with fail
  with_reducible (refine C22.mono ?_)
  rintro e X0 ⟨bp, P, rfl, hP, hbp, f3⟩
  simp only [World.size_alloc] at hbp
  have HP : Hid _ := hP
  have HFX : Hid (Fr [] w X0) := HF1.out.trans f3
  have hrow : X0.rowIs bp 69 (N * 19) (plc P) := by have := hP.row; rw [HL.out] at this; exact this
  have HOK : Hid (∀ i, i < N → okS (P i).s) := fun i hi => hP.ok i (by rw [HL.out]; exact hi)
  have HROW : Hid _ := hrow
  have HB0 : Hid (X0.heap[w.heap.size]? = some (.cells #[.string name, .int .i64 ps, .int .i64 rs, .slice ca N cc] 24 (0, 0))) := f3.at b1 (by simp)
  clear hP f3 C22 hrow b1 HF1
  go_wp2
  go_loopw [4, 11] (fun v i wr => ∃ d : Nat, d ≤ N ∧ i = .int .i64 d ∧ OR wr X0.heap.size v (deadN P L d) ∧ Hid (Fr [] X0 wr)) (fun _ i _ => N - (intOf i).toNat)
  case atStart => exact ⟨0, Nat.zero_le _, rfl, OR.nil _ _, Fr.refl _ _⟩
  case round =>
    obtain ⟨d, hd, rfl, ho, FX⟩ := hrel
    have HWX : Hid (w.heap.size ≤ X0.heap.size ∧ X0.heap.size ≤ wr.heap.size) := ⟨HFX.out.size, FX.out.size⟩
    obtain ⟨va, vc, rfl, hvc, hvn⟩ := ho.slice
    by_cases hlt : d < N
    · have hdI : (d : Int) < N := by omega
      obtain ⟨fs, hu69⟩ := under69
      have HR1 : Hid _ := pcL_range (row_fr HROW.out FX.out (by simp)) hlt
      have z1 := heap_alloc_new wr (.cells z19 69)
      have HSR : Hid ((wr.alloc (.cells z19 69)).setRow wr.heap.size (pcL (P d)).toArray = wr.alloc (.cells (pcL (P d)).toArray 69)) := World.setRow_alloc_new wr z19 _ 69
      have HI1 : Hid ((Tryd.prog.info? 69).map (·.size) = some (pcL (P d)).length) := by unfold Hid; rw [pcL_len]; exact info69s
      have HL1 : Hid ((pcL (P d)).toArray.size = 19) := by unfold Hid; simp [pcL_len]
      have HO1 : Hid _ := pcL_one (P d)
      have HHU : Hid _ := hu69
      have HDS : Hid _ := deadN_succ P L d
      have HDL : Hid ((deadN P L d).length ≤ 2000000) := by have := deadN_len P L d; unfold Hid; omega
      have HOR : Hid (OR wr X0.heap.size (.slice va (deadN P L d).length vc) (deadN P L d)) := ho
      clear hu69 ho
      unfold z19 at z1 HSR
      go_upto_region 6 with (first
        | refine wpList_load_mid rfl 69 (.tmp 14) rfl bp (d * 19) rfl (pcL (P d)) _ HR1.out HHU.out rfl HI1.out ?_
        | (refine wpList_store_row rfl 69 (.tmp 6) (.tmp 15) rfl wr.heap.size (pcL (P d)).toArray rfl rfl 69 _ z1 (by rw [HL1.out]; exact info69s) (by rw [HL1.out]; rfl) HO1.out ?_; rw [HSR.out]))
      have g1 : Fr [] wr (wr.alloc (.cells (pcL (P d)).toArray 69)) := (Fr.refl _ _).alloc _
      have b6 := heap_alloc_new wr (.cells (pcL (P d)).toArray 69)
      have hpc : (pcL (P d)).toArray[16]? = some (.int .i64 (P d).wr) := by rw [List.getElem?_toArray, pcL, List.getElem?_append_right (by rw [setL_len]; exact Nat.le_refl _), setL_len]; rfl
      have FX1 : Hid (Fr [] X0 (wr.alloc (.cells (pcL (P d)).toArray 69))) := FX.out.trans g1
      have HOR1 : Hid (OR (wr.alloc (.cells (pcL (P d)).toArray 69)) X0.heap.size (.slice va (deadN P L d).length vc) (deadN P L d)) := HOR.out.fr g1 (by simp)
      clear z1 HSR HR1 HI1 HL1 HO1 HHU
      generalize hX : wr.alloc (.cells (pcL (P d)).toArray 69) = X at *
      clear hX
      have m16 : ∀ w', Fr [] X w' → w'.cell? ⟨wr.heap.size, 16, none⟩ = some (.int .i64 (P d).wr) := fun w' f => f.cell1 (at_cells b6 16 hpc) (by simp)
      have m0 : ∀ w', Fr [] X w' → w'.cell? ⟨w.heap.size, 0, none⟩ = some (.string name) := fun w' f => (FX1.out.trans f).cell1 (at_cells HB0.out 0 rfl) (by simp)
      have m1 : ∀ w', Fr [] X w' → w'.cell? ⟨w.heap.size, 1, none⟩ = some (.int .i64 ps) := fun w' f => (FX1.out.trans f).cell1 (at_cells HB0.out 1 rfl) (by simp)
      have m2 : ∀ w', Fr [] X w' → w'.cell? ⟨w.heap.size, 2, none⟩ = some (.int .i64 rs) := fun w' f => (FX1.out.trans f).cell1 (at_cells HB0.out 2 rfl) (by simp)
      have m3 : ∀ w', Fr [] X w' → w'.cell? ⟨w.heap.size, 3, none⟩ = some (.slice ca N cc) := fun w' f => (FX1.out.trans f).cell1 (at_cells HB0.out 3 rfl) (by simp)
      have HXS : Hid (X0.heap.size ≤ X.heap.size) := FX1.out.size
      cases hw : ((P d).wr != -1) with
      | false =>
        have HDE : Hid (deadN P L (d + 1) = deadN P L d) := by
          have h1 : deadB P L d = false := by unfold deadB; rw [hw]; rfl
          unfold Hid
          rw [HDS.out, h1]
          simp
        have HFXr : Hid (Fr [] X0 X.drew) := FX1.out.drew
        have HORr : Hid (OR X.drew X0.heap.size (.slice va (deadN P L d).length vc) (deadN P L d)) := HOR1.out.fr ((Fr.refl [] _).drew) (by simp)
        refine dead_no m16 hw ?_
        intro n16 n17 n18 n19 n20 n21 n22 n23 n24 n25 n26 n27
        clear m0 m1 m2 m3 m16 b6 hpc CN g1 hw HDS HDL HOR HOR1 FX1
        have HDEl : Hid ((deadN P L (d + 1)).length = (deadN P L d).length) := by unfold Hid; rw [HDE.out]
        go_wp2
        go_roundw
        case rel =>
          refine ⟨d + 1, hlt, by go_num, ?_, HFXr⟩
          rw [HDE.out]
          exact HORr.out
        case measure => simp [intOf]; omega
      | true =>
        have CN2 : ∀ w', Fr [] X w' → Calls Tryd.prog 26 #[.agg #[.string name, .int .i64 ps, .int .i64 rs, .slice ca N cc], .int .i64 (d : Nat)] w' fun e w'' => ∃ va vc, e = .returned (.slice va (nextL L d).length vc) ∧ (KAt w''.heap.size w'' va (nextL L d)) ∧ Fr [] w' w'' := fun w' f => (CN d w' ((HFX.out.trans FX1.out).trans f)).mono (fun e w'' ⟨v, h1, h2, h3⟩ => by
          obtain ⟨va, vc, rfl, _, _⟩ := h2.slice
          exact ⟨va, vc, h1, h2.kat, h3⟩)
        have C25 : ∀ w', Fr [] X w' → ∀ va vc, KAt w'.heap.size w' va (nextL L d) → Calls Tryd.prog 25 #[.slice (some ⟨bp, 0, none⟩) N N, .slice va (nextL L d).length vc, .int .i64 (P d).wr] w' fun e w'' => e = .returned (.bool (wantB P (P d).wr (nextL L d))) ∧ Fr [] w' w'' := fun w' f va vc hk => wanted_any w' bp N P (row_fr HROW.out (FX1.out.trans f) (by simp)) HOK.out _ va _ _ vc rfl (next_len L d) hk (fun k hk2 => by
          obtain ⟨m, e, hm⟩ := next_in hk2
          exact ⟨m, e, by rw [HL.out] at hm; exact hm⟩) _ hN
        have HDB : Hid (∀ b, wantB P (P d).wr (nextL L d) = b → deadB P L d = !b) := fun b hb => by unfold deadB; rw [hb, hw]; rfl
        cases hbw : wantB P (P d).wr (nextL L d) with
        | true =>
          rw [hbw] at C25
          have HDE : Hid (deadN P L (d + 1) = deadN P L d) := by
            unfold Hid
            rw [HDS.out, HDB.out true hbw]
            simp
          refine dead_yes (bw := true) m16 m0 m1 m2 m3 hw (fun w' va vc => KAt w'.heap.size w' va (nextL L d)) CN2 C25 ?_
          intro n16 n17 n18 n19 n20 n21 n22 n23 n24 n25 n26 n27 X2 fx2
          have HFXr : Hid (Fr [] X0 X2) := FX1.out.trans fx2
          have HORr : Hid (OR X2 X0.heap.size (.slice va (deadN P L d).length vc) (deadN P L d)) := HOR1.out.fr fx2 (by simp)
          clear m0 m1 m2 m3 m16 b6 hpc CN g1 hw HDS HDL HOR HOR1 FX1 CN2 C25 fx2 hbw HDB
          go_wp2
          go_roundw
          case rel =>
            refine ⟨d + 1, hlt, by go_num, ?_, HFXr⟩
            rw [HDE.out]
            exact HORr.out
          case measure => simp [intOf]; omega
        | false =>
          rw [hbw] at C25
          have HDE : Hid (deadN P L (d + 1) = deadN P L d ++ [(d : Int)]) := by
            unfold Hid
            rw [HDS.out, HDB.out false hbw]
            simp
          refine dead_yes (bw := false) m16 m0 m1 m2 m3 hw (fun w' va vc => KAt w'.heap.size w' va (nextL L d)) CN2 C25 ?_
          intro n16 n17 n18 n19 n20 n21 n22 n23 n24 n25 n26 n27 X2 fx2
          have HFXr : Hid (Fr [] X0 X2) := FX1.out.trans fx2
          have ho : OR X2 X0.heap.size (.slice va (deadN P L d).length vc) (deadN P L d) := HOR1.out.fr fx2 (by simp)
          have hlo := ho.lt
          have HX2 : Hid (X0.heap.size ≤ X2.heap.size) := HFXr.out.size
          obtain ⟨i3, hi3, hz3, hs3, hb3⟩ := info_parts info3
          unfold OR at ho
          clear m0 m1 m2 m3 m16 b6 hpc CN g1 hw HDS HOR HOR1 FX1 CN2 C25 fx2 hbw HDB
          generalize deadN P L d = K at *
          have hKI : (K.length : Int) ≤ 2000000 := by have := HDL.out; omega
          go_wp2_with (at_builtin; refine wpList_append_src _ rfl _ _ 30 rfl X0.heap.size 3 i3 (.int .i64 0) 1 8 Tryd.underlying30 hi3 hz3 hs3 hb3 rfl (by decide) (.slice va K.length vc) K.length (K.map (Value.int .i64)) rfl (ho.alloc _) (some ⟨X2.heap.size, 0, none⟩) 1 1 [.int .i64 d] rfl rfl (by simp) (fun ad h => by cases h; exact one_new X2 _) (by simp [Value.oneCell']) (by have := HDL.out; unfold maxLen; omega) (by have := HDL.out; omega) (by have := HX2.out; simp; omega) ?_)
          intro v3 w3 ho3 hg hl
          have f3 : Fr (Value.slice va K.length vc).ownBlock.toList X2 w3 := ((Fr.refl _ _).alloc _).trans (Fr.ofGrown hg)
          have O3 : Hid (OR w3 X0.heap.size v3 (deadN P L (d + 1))) := by unfold Hid OR; rw [HDE.out]; simpa using ho3
          have F3 : Hid (Fr [] X0 w3) := ((HFXr.out.sub (T := (Value.slice va K.length vc).ownBlock.toList) (by simp)).trans f3).sub (fun k hk => .inr (hlo k (by simpa using hk)).1)
          clear ho3 hg hl f3 ho hlo
          go_wp2
          go_roundw
          case rel => exact ⟨d + 1, hlt, by go_num, O3.out, F3⟩
          case measure => simp [intOf]; omega
    · have HE : Hid (d = N) := by unfold Hid; omega
      have HO : Hid (OR wr w.heap.size (.slice va (deadN P L d).length vc) (deadN P L d)) := own_low ho HWX.out.1
      have HFE : Hid (Fr [] w wr) := HFX.out.trans FX.out
      clear ho
      go_wp2
      go_ret
      refine ⟨_, P, rfl, ?_, HP.out.least, HP.out.wr, HFE.out⟩
      rw [← HE.out]
      exact HO.out
end Go.Proofs.YtajdnakpljgkpaaDoor
