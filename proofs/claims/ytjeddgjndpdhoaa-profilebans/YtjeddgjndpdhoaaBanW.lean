/-
  ProfileBans returns true, told of values and worlds; conditions: the key and the acts are of numbers of 64 bits and lie as told.
-/
import Derived.Test.YtjeddgjndpdhoaaBanP
import Derived.Test.YtjeddgjndpdhoaaEchW
import Derived.Deep.Cut
namespace Go.Proofs.Ytjeddgjndpdhoaa
open Go.RowKit Go.Shelf Go.Maps Go.ChangeShapes
set_option linter.unusedVariables false
set_option linter.unusedSimpArgs false

def BRel (w wr : World) (n kb : Nat) (t : Int) (k : Ky) (l : List (Int × Ky)) (i : Nat) : Prop :=
  Hid (BA wr (n + 2) n (n + 1) (withO (banS t k l i) k)) ∧ Hid (BA wr (n + 5) (n + 3) (n + 4) (banS t k l i)) ∧ Hid (Fr [] w wr) ∧ Hid (wr.heap[kb]? = some (.cells (kc k) 28 (0, 0)))
set_option maxRecDepth 100000 in
set_option maxHeartbeats 4000000 in
theorem profileBans_walk (w : World) (t : Int) (wt : (Lit.int .i64 t).wf = true) (l : List (Int × Ky)) (a : Option Addr) (c : Nat) (hp : ∀ y ∈ l, kw y.2) (hlc : l.length ≤ c) (hcm : c ≤ maxLen) (hno : a = none → c = 0)
    (hat : ∀ (i : Nat) (y : Int × Ky), l[i]? = some y → ∃ b o, a = some ⟨b, o, none⟩ ∧ b < w.heap.size ∧ ∀ (j : Nat) (u : Value), (.int .i64 y.1 :: (kc y.2).toList)[j]? = some u → w.cell? ⟨b, o + i * 11 + j, none⟩ = some u)
    (k : Ky) (hk : kw k) : Calls Try.prog 8 #[.int .i64 t, .slice a l.length c, .agg (kc k)] w fun e w' => e = .returned (.bool true) ∧ Fr [] w w' := by
  have CA := awake_any (w.alloc (.cells (kc k) 28))
  have kw0 := heap_alloc_new w (.cells (kc k) 28)
  have HT2 : Hid (t ≤ 9223372036854775807) := (wf64 wt).2
  have HL : Hid (LAt w.heap.size w a l) := fun i y hy => by
    obtain ⟨b, o, e, hb, h⟩ := hat i y hy
    exact ⟨b, o, e, hb, fun j u hu => h j u (by simpa [ac] using hu)⟩
  have HP : Hid (∀ y ∈ l, kw y.2) := hp
  have HK : Hid (kw k) := hk
  obtain ⟨N, hN⟩ : ∃ N, N = l.length := ⟨_, rfl⟩
  rw [← hN]
  have HN : Hid (N = l.length) := hN
  clear wt hat hp hlc hcm hno hN hk
  by_cases hq : 500 < N
  · have hqI : (500 : Int) < N := by omega
    go_enter Try.func8, Try.ntmps8
    go_wp2_with fail
    refine CA.mono ?_
    rintro e w1 ⟨rfl, f1⟩
    have F1 : Hid (Fr [] w w1) := ((Fr.refl [] w).alloc _).trans f1
    clear CA f1 kw0
    go_wp2
    go_ret
    exact ⟨rfl, F1.out⟩
  · have hqI : ¬ ((500 : Int) < N) := by omega
    have hNI : (N : Int) ≤ 500 := by omega
    have hN5 : N ≤ 500 := by omega
    clear hq
    go_enter Try.func8, Try.ntmps8
    go_wp2_with fail
    refine CA.mono ?_
    rintro e w1 ⟨rfl, f1⟩
    have F1 : Hid (Fr [] w w1) := ((Fr.refl [] w).alloc _).trans f1
    have K1 : Hid (w1.heap[w.heap.size]? = some (.cells (kc k) 28 (0, 0))) := (f1.block _ (by simp) (by simp)).trans kw0
    have HS1 : Hid (w.heap.size < w1.heap.size) := (Array.getElem?_eq_some_iff.1 K1.out).1
    have CN := new_any w1 t
    clear CA f1 kw0
    go_wp2_with fail
    refine CN.mono ?_
    rintro e w2 ⟨rfl, f2, b2, z2⟩
    have F2 : Hid (Fr [] w w2) := F1.out.trans f2
    have K2 : Hid (w2.heap[w.heap.size]? = some (.cells (kc k) 28 (0, 0))) := (f2.block _ HS1.out (by simp)).trans K1.out
    have B2 : Hid (BA w2 (w1.heap.size + 2) w1.heap.size (w1.heap.size + 1) ⟨max t 1, [], 0, []⟩) := b2
    have Z2 : Hid (w2.heap.size = w1.heap.size + 3) := z2
    have CN := new_any w2 t
    rw [z2] at CN
    simp only [Nat.add_assoc, Nat.reduceAdd] at CN
    clear f2 b2 z2 K1 F1
    go_wp2_with fail
    refine CN.mono ?_
    rintro e w3 ⟨rfl, f3, b3, z3⟩
    have F3 : Hid (Fr [] w w3) := F2.out.trans f3
    have K3 : Hid (w3.heap[w.heap.size]? = some (.cells (kc k) 28 (0, 0))) := (f3.block _ (Array.getElem?_eq_some_iff.1 K2.out).1 (by simp)).trans K2.out
    have A3 := B2.out.fr f3 (by simp) (by simp) (by simp)
    have B3 : Hid (BA w3 (w1.heap.size + 5) (w1.heap.size + 3) (w1.heap.size + 4) ⟨max t 1, [], 0, []⟩) := b3
    have CB := ban_any A3 List.Pairwise.nil (by simp) HK.out
    clear f3 b3 z3 K2 F2 B2 A3 CN
    go_wp2_with (refine wpList_load28 rfl (.tmp 5) rfl w.heap.size 0 rfl k (range_box K3.out) ?_)
    refine CB.mono ?_
    rintro e w4 ⟨rfl, f4, b4⟩
    have R0 : Hid (BRel w w4 w1.heap.size w.heap.size t k l 0) := by
      have h0 := HS1.out
      refine ⟨?_, B3.out.fr f4 (by simp) (by simp) (by simp), F3.out.over f4 (fun i hi => .inr (by simp at hi; omega)), (f4.block _ (Array.getElem?_eq_some_iff.1 K3.out).1 (by simp; omega)).trans K3.out⟩
      have : banB ⟨max t 1, [], 0, []⟩ k = withO (banS t k l 0) k := by simp [banB, withO, banS, delL, addO]
      rw [← this]
      exact b4
    clear f4 b4 B3 F3 K3 CB
    generalize w1.heap.size = n at *
    go_wp2_with fail
    go_loopw [10, 31] (fun _ i wr => ∃ j : Nat, j ≤ N ∧ i = .int .i64 j ∧ BRel w wr n w.heap.size t k l j) (fun _ i _ => N - (intOf i).toNat)
    case atStart => exact ⟨0, Nat.zero_le _, rfl, R0.out⟩
    case round =>
      obtain ⟨j, hj, rfl, hA, hB, hF, hK⟩ := hrel
      obtain ⟨iOk, iO, iE, iH⟩ := banS_inv HT2.out (k := k) HP.out j
      by_cases hlt : j < N
      · have hx : l[j]? = some (l[j]'(by rw [← HN.out]; exact hlt)) := List.getElem?_eq_getElem _
        generalize l[j]'(by rw [← HN.out]; exact hlt) = y at hx
        obtain ⟨gb, go, rfl, hgb, hr⟩ := (HL.out.fr hF.out (by simp)) j y hx
        have HX : Hid (l[j]? = some y) := hx
        have HY : Hid (kw y.2) := HP.out y (List.mem_of_getElem? hx)
        have HR : Hid (wr.rangeAt gb (go + j * 11) (ac y).toList) := hr
        have hltI : (j : Int) < N := by omega
        obtain ⟨X, hX⟩ : ∃ X, X = wr.alloc (.cells (ac y) 38) := ⟨_, rfl⟩
        have zz := heap_alloc_new wr (.cells Z38 38)
        have HS : Hid ((wr.alloc (.cells Z38 38)).setRow wr.heap.size (ac y) = X) := by rw [hX]; exact World.setRow_alloc_new wr _ _ _
        have FX : Fr [] wr X := by rw [hX]; exact (Fr.refl _ _).alloc _
        have XX : Hid (X.heap[wr.heap.size]? = some (.cells (ac y) 38 (0, 0))) := by rw [hX]; exact heap_alloc_new _ _
        have HA : Hid (BA X (n + 2) n (n + 1) (withO (banS t k l j) k)) := hA.out.fr FX (by simp) (by simp) (by simp)
        have HB : Hid (BA X (n + 5) (n + 3) (n + 4) (banS t k l j)) := hB.out.fr FX (by simp) (by simp) (by simp)
        have HF : Hid (Fr [] w X) := hF.out.trans FX
        have KX : Hid (X.heap[w.heap.size]? = some (.cells (kc k) 28 (0, 0))) := (FX.block _ (Array.getElem?_eq_some_iff.1 hK.out).1 (by simp)).trans hK.out
        have HE : Hid ((banS t k l j).ent ≤ j) := iE
        have HO : Hid ((banS t k l j).O = []) := iO
        have HH : Hid (hasL (banS t k l j).L k = false) := iH
        have HI : Hid (Ok (banS t k l j)) := iOk
        have HZ : Hid (n + 5 < wr.heap.size) := (Array.getElem?_eq_some_iff.1 hB.out.blk).1
        unfold Z38 at zz HS
        clear hX FX hA hB hF hK hr hx iE iO iH iOk
        by_cases e : y.2 = k
        · have HE2 : Hid (banS t k l (j + 1) = banS t k l j) := banS_same HX.out e
          have HD : Hid (decide (y.2 = k) = true) := decide_eq_true e
          have CH := hit_any HA.out (ok_with HI.out k) (by show (banS t k l j).ent ≤ _; have := HE.out; omega) HK.out
          rw [hit_ban] at CH
          clear e
          go_wp2_with (first
            | refine wpList_load38 rfl (.tmp 33) rfl gb (go + j * 11) rfl y HR.out ?_
            | (refine wpList_store_row rfl 38 (.tmp 10) (.tmp 34) rfl wr.heap.size (ac y) rfl rfl 38 _ zz (by rw [info38, ac_size]) (by rw [ac_size]; rfl) (ac_one _) ?_; rw [HS.out])
            | refine wpList_load28 rfl (.tmp 35) rfl wr.heap.size 1 rfl y.2 (range_act XX.out) ?_
            | refine wpList_load28 rfl (.tmp 5) rfl w.heap.size 0 rfl k (range_box KX.out) ?_
            | (refine wpList_eql28 rfl (.tmp 36) (.tmp 37) rfl HY.out HK.out rfl rfl ?_; rw [HD.out]))
          refine CH.mono ?_
          rintro e X1 ⟨rfl, f1, a1⟩
          have h0 := HS1.out
          have h1 := HZ.out
          have HA1 : Hid (BA X1 (n + 2) n (n + 1) (withO (banS t k l j) k)) := a1
          have HB1 : Hid (BA X1 (n + 5) (n + 3) (n + 4) (banS t k l j)) := HB.out.fr f1 (by simp) (by simp) (by simp)
          have HF1 : Hid (Fr [] w X1) := HF.out.over f1 (fun i hi => .inr (by simp at hi; omega))
          have KX1 : Hid (X1.heap[w.heap.size]? = some (.cells (kc k) 28 (0, 0))) := (f1.block _ (Array.getElem?_eq_some_iff.1 KX.out).1 (by simp; omega)).trans KX.out
          have CC := count_any a1 HK.out
          rw [show cntL (withO (banS t k l j) k).L k = 0 from cnt_no HH.out] at CC
          clear f1 a1 CH h0 h1 zz HS
          go_wp2_with (refine wpList_load28 rfl (.tmp 5) rfl w.heap.size 0 rfl k (range_box KX1.out) ?_)
          refine CC.mono ?_
          rintro e X2 ⟨rfl, f2⟩
          have R2 : Hid (BRel w X2 n w.heap.size t k l (j + 1)) := by
            show BRel w X2 n w.heap.size t k l (j + 1)
            unfold BRel
            rw [HE2.out]
            exact ⟨HA1.out.fr f2 (by simp) (by simp) (by simp), HB1.out.fr f2 (by simp) (by simp) (by simp), HF1.out.trans f2, (f2.block _ (Array.getElem?_eq_some_iff.1 KX1.out).1 (by simp)).trans KX1.out⟩
          clear f2 CC
          go_wp2
          go_roundw
          case rel => exact ⟨j + 1, hlt, by go_num, R2.out⟩
          case measure => simp [intOf]; omega
        · have HE2 : Hid (banS t k l (j + 1) = (hitB (banS t k l j) y.2).1) := banS_other HX.out e
          have HD : Hid (decide (y.2 = k) = false) := decide_eq_false e
          have HW : Hid (hitB (withO (banS t k l j) k) y.2 = (withO (hitB (banS t k l j) y.2).1 k, (hitB (banS t k l j) y.2).2)) := hit_with HO.out e
          have HTM : Hid (((hitB (withO (banS t k l j) k) y.2).2 != (hitB (banS t k l j) y.2).2) = false) := by unfold Hid; rw [HW.out]; simp
          clear e
          go_wp2_with (first
            | refine wpList_load38 rfl (.tmp 33) rfl gb (go + j * 11) rfl y HR.out ?_
            | (refine wpList_store_row rfl 38 (.tmp 10) (.tmp 34) rfl wr.heap.size (ac y) rfl rfl 38 _ zz (by rw [info38, ac_size]) (by rw [ac_size]; rfl) (ac_one _) ?_; rw [HS.out])
            | refine wpList_load28 rfl (.tmp 35) rfl wr.heap.size 1 rfl y.2 (range_act XX.out) ?_
            | refine wpList_load28 rfl (.tmp 5) rfl w.heap.size 0 rfl k (range_box KX.out) ?_
            | (refine wpList_eql28 rfl (.tmp 36) (.tmp 37) rfl HY.out HK.out rfl rfl ?_; rw [HD.out]))
          refine reg8 (k := y.2) (S := withO (banS t k l j) k) (T := banS t k l j) (xb := wr.heap.size) HA.out HB.out (ok_with HI.out k) (by show (banS t k l j).ent ≤ _; have := HE.out; omega) HI.out (by have := HE.out; omega) HY.out ?_ (by omega) (by omega) (by omega) (by omega) (by omega) (by omega) (by omega) (by omega) ?_
          · intro w' f
            have h1 := HZ.out
            exact range_act ((f.block _ (Array.getElem?_eq_some_iff.1 XX.out).1 (by simp; omega)).trans XX.out)
          · intro X2 f2 a2 b2
            have h0 := HS1.out
            have h1 := HZ.out
            have R2 : Hid (BRel w X2 n w.heap.size t k l (j + 1)) := by
              show BRel w X2 n w.heap.size t k l (j + 1)
              unfold BRel
              rw [HE2.out]
              rw [HW.out] at a2
              exact ⟨a2, b2, HF.out.over f2 (fun i hi => .inr (by simp at hi; omega)), (f2.block _ (Array.getElem?_eq_some_iff.1 KX.out).1 (by simp; omega)).trans KX.out⟩
            clear f2 a2 b2 h0 h1 zz HS
            rw [HTM.out]
            go_wp2
            go_roundw
            case rel => exact ⟨j + 1, hlt, by go_num, R2.out⟩
            case measure => simp [intOf]; omega
      · have hjN : j = N := by omega
        subst hjN
        have CB := banned_any hA.out HK.out
        rw [show decide (k ∈ (withO (banS t k l j) k).O) = true by simp [withO]] at CB
        clear iOk iO iE iH hlt
        go_wp2_with (refine wpList_load28 rfl (.tmp 5) rfl w.heap.size 0 rfl k (range_box hK.out) ?_)
        refine CB.mono ?_
        rintro e X1 ⟨rfl, f1⟩
        have HF1 : Hid (Fr [] w X1) := hF.out.trans f1
        have CL := len_any (hA.out.fr f1 (by simp) (by simp) (by simp))
        have CM := len_any (hB.out.fr f1 (by simp) (by simp) (by simp))
        rw [show (withO (banS t k l j) k).L.length = (banS t k l j).L.length from rfl] at CL
        generalize (banS t k l j).L.length = M at CL CM
        clear CB f1
        go_wp2_with fail
        refine CL.mono ?_
        rintro e X2 ⟨rfl, rfl⟩
        go_wp2_with fail
        refine CM.mono ?_
        rintro e X3 ⟨rfl, rfl⟩
        go_wp2
        go_ret
        exact ⟨by simp, HF1.out⟩
end Go.Proofs.Ytjeddgjndpdhoaa
