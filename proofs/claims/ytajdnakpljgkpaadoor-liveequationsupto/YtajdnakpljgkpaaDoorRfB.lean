/-
  The document's tables, by its own text; conditions: the function lies as told.
-/
import Derived.Test.YtajdnakpljgkpaaDoorRfA
import Derived.Test.YtajdnakpljgkpaaDoorLvZ
namespace Go.Proofs.YtajdnakpljgkpaaDoor
open Go.RowKit
set_option linter.unusedVariables false
set_option linter.unusedSimpArgs false

def regR (S : Nat → Nat → Bool) (i p : Nat) : List Int := ((List.range p).filter (S i)).map (fun r : Nat => (r : Int))
theorem regR_succ (S : Nat → Nat → Bool) (i p : Nat) : regR S i (p + 1) = regR S i p ++ (if S i p = true then [(p : Int)] else []) := by
  unfold regR
  rw [List.range_succ, List.filter_append, List.map_append]
  congr 1
  by_cases h : S i p = true
  · simp [h]
  · simp [h]
theorem regR_len (S : Nat → Nat → Bool) (i p : Nat) : (regR S i p).length ≤ p := by
  unfold regR
  have := List.length_filter_le (S i) (List.range p)
  simpa using this
def rtab (S : Nat → Nat → Bool) (R N : Nat) : List (List Int) := (List.range N).map (fun i => regR S i R)
theorem rtab_succ (S : Nat → Nat → Bool) (R N : Nat) : rtab S R (N + 1) = rtab S R N ++ [regR S N R] := by
  unfold rtab
  rw [List.range_succ, List.map_append]
  rfl
theorem rtab_len (S : Nat → Nat → Bool) (R N : Nat) : (rtab S R N).length = N := by simp [rtab]

def RTabOut (L : List In) (rs : Int) (N R : Nat) (w : World) (e : Ending) (w' : World) : Prop := ∃ v S, e = .returned v ∧ LL w' w.heap.size v (rtab S R N) ∧ Least L rs (fun i r => r < R ∧ S i r = true) ∧ Fr [] w w'
set_option maxRecDepth 100000 in
set_option maxHeartbeats 8000000 in
theorem rtables_any (B : Nat) (f : Fu) (w : World) (hf : FuOk B w f) (hB : B ≤ w.heap.size) (hN : f.code.length ≤ 2000000) (hl : ∀ x ∈ f.code, x.l.length ≤ 8000000000000) :
    Calls Tryd.prog 10 #[.agg f.arr] w (RTabOut f.code f.rs f.code.length (regN f.rs) w) := by
  obtain ⟨i3, hi3, hz3, hs3, hb3⟩ := info_parts info3
  obtain ⟨i30, hi30, hz30, hs30, hb30⟩ := info_parts info30
  have f1 : Fr [] w (w.alloc (.cells f.arr 24)) := (Fr.refl _ _).alloc _
  have C24 := sets_any B f _ (hf.fr f1 (by simp)) (Nat.le_trans hB f1.size) hN hl
  have HF1 : Hid (Fr [] w (w.alloc (.cells f.arr 24))) := f1
  have hNI : (f.code.length : Int) ≤ 2000000 := by omega
  have hRl := regN_le f.rs
  generalize f.code.length = N at *
  generalize regN f.rs = R at *
  have hRI : (R : Int) ≤ 1000 := by omega
  clear f1 hf
  unfold Fu.arr at *
  go_enter Tryd.func10, Tryd.ntmps10
  go_wp2_with fail
  with_reducible (refine C24.mono ?_)
  rintro e X0 ⟨gi, rb, S, rfl, hsm, hle, f3⟩
  have HSM : Hid (SM X0 gi rb N R S) := hsm
  have HLe : Hid (Least f.code f.rs (fun i r => r < R ∧ S i r = true)) := hle
  have HFX : Hid (Fr [] w X0) := HF1.out.trans f3
  have HWX : Hid (w.heap.size ≤ X0.heap.size) := HFX.out.size
  clear hsm hle f3 C24 HF1
  go_wp2
  go_loopw [3, 12] (fun v i wr => ∃ p : Nat, p ≤ N ∧ i = .int .i64 p ∧ Hid (LL wr X0.heap.size v (rtab S R p)) ∧ Hid (Fr [] X0 wr)) (fun _ i _ => N - (intOf i).toNat)
  case atStart => exact ⟨0, Nat.zero_le _, rfl, LL.nil (World.ownsRow_nil _ _ _ _), Fr.refl _ _⟩
  case round =>
    obtain ⟨p, hp, rfl, HLL, FX⟩ := hrel
    by_cases hlt : p < N
    · have hpI : (p : Int) < N := by omega
      have SMp := HSM.out.fr FX.out (by simp) (by simp)
      have e1 := SMp.o.cell hlt
      have HSp : Hid (SM wr gi rb N R S) := SMp
      have HWS : Hid (X0.heap.size ≤ wr.heap.size) := FX.out.size
      obtain ⟨W1, hW1⟩ : ∃ W1, W1 = wr := ⟨_, rfl⟩
      have HW1 : Hid (W1 = wr) := hW1
      clear SMp
      go_wp2
      rw [← hW1] at HLL FX HSp HWS e1 ⊢
      clear hW1 HW1
      clear e1
      go_loopw [6, 18] (fun v i wq => ∃ q : Nat, q ≤ R ∧ i = .int .i64 q ∧ Hid (OR wq W1.heap.size v (regR S p q)) ∧ Hid (Fr [] W1 wq)) (fun _ i _ => R - (intOf i).toNat)
      case atStart => exact ⟨0, Nat.zero_le _, rfl, OR.nil _ _, Fr.refl _ _⟩
      case round =>
        obtain ⟨q, hq, rfl, HO, FQ⟩ := hrel
        obtain ⟨va, vc, rfl, hvc, hvn⟩ := HO.out.slice
        by_cases hql : q < R
        · have hqI : (q : Int) < R := by omega
          have SMq := HSp.out.fr FQ.out (by simp) (by simp)
          have e1 := (SMq.r p hlt).cell hql
          have HRS : Hid _ := regR_succ S p q
          have HKl : Hid ((regR S p q).length ≤ 1000) := by have := regR_len S p q; unfold Hid; omega
          clear SMq
          cases hs1 : S p q with
          | false =>
            rw [hs1] at e1
            have HE : Hid (regR S p (q + 1) = regR S p q) := by unfold Hid; rw [HRS.out, hs1]; simp
            clear hs1 HRS
            go_wp2
            go_roundw
            case rel => exact ⟨q + 1, hql, by go_num, (by unfold Hid; rw [HE.out]; exact HO.out), FQ⟩
            case measure => simp [intOf]; omega
          | true =>
            rw [hs1] at e1
            have HE : Hid (regR S p (q + 1) = regR S p q ++ [(q : Int)]) := by unfold Hid; rw [HRS.out, hs1]; simp
            have ho := HO.out
            have hlo := ho.lt
            have HWQ : Hid (W1.heap.size ≤ wr.heap.size) := FQ.out.size
            unfold OR at ho
            clear hs1 HRS
            generalize regR S p q = K at *
            have hKI : (K.length : Int) ≤ 1000 := by have := HKl.out; omega
            go_wp2_with (at_builtin; refine wpList_append_src _ rfl _ _ 30 rfl W1.heap.size 3 i3 (.int .i64 0) 1 8 Tryd.underlying30 hi3 hz3 hs3 hb3 rfl (by decide) (.slice va K.length vc) K.length (K.map (Value.int .i64)) rfl (ho.alloc _) (some ⟨wr.heap.size, 0, none⟩) 1 1 [.int .i64 q] rfl rfl (by simp) (fun ad h => by cases h; exact one_new wr _) (by simp [Value.oneCell']) (by have := HKl.out; unfold maxLen; omega) (by have := HKl.out; omega) (by have := HWQ.out; simp; omega) ?_)
            intro v3 w3 ho3 hg hl3
            have f3 : Fr (Value.slice va K.length vc).ownBlock.toList wr w3 := ((Fr.refl _ _).alloc _).trans (Fr.ofGrown hg)
            have O3 : Hid (OR w3 W1.heap.size v3 (regR S p (q + 1))) := by unfold Hid OR; rw [HE.out]; simpa using ho3
            have F3 : Hid (Fr [] W1 w3) := ((FQ.out.sub (T := (Value.slice va K.length vc).ownBlock.toList) (by simp)).trans f3).sub (fun k hk => .inr (hlo k (by simpa using hk)).1)
            clear ho3 hg hl3 f3 ho hlo HO FQ
            go_wp2
            go_roundw
            case rel => exact ⟨q + 1, hql, by go_num, O3, F3⟩
            case measure => simp [intOf]; omega
        · obtain rfl : q = R := by omega
          have HTS : Hid _ := rtab_succ S q p
          have LLq := HLL.out.fr FQ.out (by simp)
          obtain ⟨vs, ho, hk⟩ := LLq
          rw [rtab_len] at ho
          obtain ⟨la, lc, rfl, _⟩ := own_slice ho
          have hlo := ho.lt
          have HWQ : Hid (W1.heap.size ≤ wr.heap.size) := FQ.out.size
          have hnew : ∀ j u, [Value.slice va (regR S p q).length vc][j]? = some u → (wr.alloc (.cells #[.slice va (regR S p q).length vc] 30)).cell? ((⟨wr.heap.size, 0, none⟩ : Addr).add j) = some u := by
            intro j u hu
            have hadd : (⟨wr.heap.size, 0, none⟩ : Addr).add j = ⟨wr.heap.size, j, none⟩ := by unfold Addr.add; split <;> simp_all
            rw [hadd]
            exact at_cells (heap_alloc_new wr _) j (by simpa using hu)
          have HOH : Hid _ := ho
          have HHK : Hid _ := hk
          have hOi : OR wr X0.heap.size (.slice va (regR S p q).length vc) (regR S p q) := own_low HO.out HWS.out
          have HOi : Hid (OR wr X0.heap.size (.slice va (regR S p q).length vc) (regR S p q)) := hOi
          clear hk HO hOi
          go_wp2_with (at_builtin; refine wpList_append_src _ rfl _ _ 27 rfl X0.heap.size 30 i30 (.slice none 0 0) 1 24 under27 hi30 hz30 hs30 hb30 rfl (by decide) (.slice la p lc) p vs rfl (ho.alloc _) (some ⟨wr.heap.size, 0, none⟩) 1 1 [.slice va (regR S p q).length vc] rfl rfl (by simp) (fun ad h => by cases h; exact hnew) (by simp [Value.oneCell']) (by unfold maxLen; omega) (by omega) (by have := HWQ.out; have := HWS.out; simp; omega) ?_)
          intro v4 w4 ho4 hg4 hl4
          have f4 : Fr (Value.slice la p lc).ownBlock.toList wr w4 := ((Fr.refl _ _).alloc _).trans (Fr.ofGrown hg4)
          have LL4 : Hid (LL w4 X0.heap.size v4 (rtab S q (p + 1))) := by
            unfold Hid
            rw [HTS.out]
            exact LL.snoc (by rw [rtab_len]; exact HOH.out) HHK.out f4 (by rw [rtab_len]; exact ho4) HOi.out
          have F4 : Hid (Fr [] X0 w4) := (((FX.out.trans FQ.out).sub (T := (Value.slice la p lc).ownBlock.toList) (by simp)).trans f4).sub (fun k hk => .inr (hlo k (by simpa using hk)).1)
          clear ho4 hg4 hl4 f4 ho hlo hnew HOH HHK HOi
          go_wp2
          go_roundw
          case rel => exact ⟨p + 1, hlt, by go_num, LL4, F4⟩
          case measure => simp [intOf]; omega
    · obtain rfl : p = N := by omega
      have HFE : Hid (Fr [] w wr) := HFX.out.trans FX.out
      have HL2 : Hid (LL wr w.heap.size u3 (rtab S R p)) := by
        obtain ⟨vs, ho, hk⟩ := HLL.out
        exact ⟨vs, own_low ho HWX.out, fun i K hK => by obtain ⟨a, c, h1, h2⟩ := hk i K hK; exact ⟨a, c, h1, own_low h2 HWX.out⟩⟩
      go_wp2
      go_ret
      exact ⟨_, S, rfl, HL2.out, HLe.out, HFE.out⟩
end Go.Proofs.YtajdnakpljgkpaaDoor
