/-
  ProfileFull returns true, told of values and worlds; conditions: the numbers are of 64 bits and lie as told.
-/
import Derived.Test.YtjeddgjndpdhoaaFulP
import Derived.Deep.Cut
namespace Go.Proofs.Ytjeddgjndpdhoaa
open Go.RowKit Go.Shelf Go.Maps Go.ChangeShapes
set_option linter.unusedVariables false
set_option linter.unusedSimpArgs false

set_option maxRecDepth 100000 in
set_option maxHeartbeats 4000000 in
theorem profileFull_walk (w : World) (more : Int) (wt : (Lit.int .i64 more).wf = true) (l : List Int) (a : Option Addr) (c : Nat) (hp : ∀ y ∈ l, (Lit.int .i64 y).wf = true) (hlc : l.length ≤ c) (hcm : c ≤ maxLen) (hno : a = none → c = 0)
    (hat : ∀ (i : Nat) (y : Int), l[i]? = some y → ∃ b o, a = some ⟨b, o, none⟩ ∧ b < w.heap.size ∧ ∀ (j : Nat) (u : Value), ([.int .i64 y] : List Value)[j]? = some u → w.cell? ⟨b, o + i * 1 + j, none⟩ = some u)
    : Calls Try.prog 5 #[.int .i64 more, .slice a l.length c] w fun e w' => e = .returned (.bool true) ∧ Fr [] w w' := by
  have CA := awake_any w
  have HAT : Hid (∀ W, Fr [] w W → ∀ ad, a = some ad → ∀ j u, (l.map (Value.int .i64))[j]? = some u → W.cell? (ad.add j) = some u) := by
    intro W f ad e j u hu
    rw [List.getElem?_map] at hu
    obtain ⟨y, hy, rfl⟩ := Option.map_eq_some_iff.1 hu
    obtain ⟨b, o, e2, hb, h⟩ := hat j y hy
    rw [e] at e2
    cases e2
    rw [add_off]
    exact f.cell1 (by have := h 0 _ rfl; simpa using this) (by simp)
  have HNO : Hid (a = none → l.length = 0 ∧ c = 0) := fun e => by have := hno e; exact ⟨by omega, this⟩
  have HP : Hid (∀ y ∈ l, (Lit.int .i64 y).wf = true) := hp
  obtain ⟨N, hN⟩ : ∃ N, N = l.length := ⟨_, rfl⟩
  rw [← hN]
  have HN : Hid (N = l.length) := hN
  clear wt hat hp hlc hcm hno hN
  by_cases hm0 : more < 0
  · go_enter Try.func5, Try.ntmps5
    go_wp2_with fail
    refine CA.mono ?_
    rintro e w1 ⟨rfl, f1⟩
    have F1 : Hid (Fr [] w w1) := f1
    clear CA f1
    go_wp2
    go_ret
    exact ⟨rfl, F1.out⟩
  by_cases hm1 : 20 < more
  · go_enter Try.func5, Try.ntmps5
    go_wp2_with fail
    refine CA.mono ?_
    rintro e w1 ⟨rfl, f1⟩
    have F1 : Hid (Fr [] w w1) := f1
    clear CA f1
    go_wp2
    go_ret
    exact ⟨rfl, F1.out⟩
  by_cases hq : 50 < N
  · have hqI : (50 : Int) < N := by omega
    go_enter Try.func5, Try.ntmps5
    go_wp2_with fail
    refine CA.mono ?_
    rintro e w1 ⟨rfl, f1⟩
    have F1 : Hid (Fr [] w w1) := f1
    clear CA f1
    go_wp2
    go_ret
    exact ⟨rfl, F1.out⟩
  obtain ⟨M, hM⟩ : ∃ M : Nat, more = M := ⟨more.toNat, by omega⟩
  subst hM
  have hM20 : M ≤ 20 := by omega
  have hqI : ¬ ((50 : Int) < N) := by omega
  have hN5 : N ≤ 50 := by omega
  clear hq
  go_enter Try.func5, Try.ntmps5
  go_wp2_with fail
  refine CA.mono ?_
  rintro e w1 ⟨rfl, f1⟩
  have F1 : Hid (Fr [] w w1) := f1
  have HS1 : Hid (w.heap.size ≤ w1.heap.size) := f1.size
  have CN := new_any w1 1000000
  clear CA f1
  go_wp2_with fail
  refine CN.mono ?_
  rintro e w2 ⟨rfl, f2, b2, z2⟩
  have F2 : Hid (Fr [] w w2) := F1.out.trans f2
  have B2 : Hid (BA w2 (w1.heap.size + 2) w1.heap.size (w1.heap.size + 1) ⟨max 1000000 1, [], 0, []⟩) := b2
  have CM := rnew_any (w1.heap.size + 4) w2 1000000 0
  rw [z2] at CM
  simp only [Nat.add_assoc, Nat.reduceAdd] at CM
  clear f2 b2 z2 CN F1
  go_wp2_with fail
  refine CM.mono ?_
  rintro e w3 ⟨rfl, f3, r3, z3⟩
  have T3 : Hid (Two w3 w1.heap.size ⟨1000000, [], 0, []⟩) := ⟨B2.out.fr f3 (by simp) (by simp) (by simp), r3, by rw [z3]; exact Nat.le_refl _⟩
  have F3 : Hid (Fr [] w w3) := F2.out.trans f3
  clear f3 r3 z3 CM B2 F2
  generalize w1.heap.size = n at *
  obtain ⟨i3, z3, ti, tz, tsz, tby, tzs⟩ := ti3
  obtain ⟨S0, hS0⟩ : ∃ S0 : Bk, S0 = ⟨1000000, [], 0, []⟩ := ⟨_, rfl⟩
  rw [← hS0] at T3
  have HS0 : Hid (S0 = ⟨1000000, [], 0, []⟩) := hS0
  have HI : Hid (Try.prog.info? 3 = some i3 ∧ i3.zero = some z3 ∧ i3.size = 1 ∧ i3.bytes = 8 ∧ z3.cells.size = 1) := ⟨ti, tz, tsz, tby, tzs⟩
  clear hS0 ti tz tsz tby tzs
  go_wp2_with (refine wpList_make_own _ rfl _ _ 48 rfl (n + 4) 3 i3 z3 1 Try.underlying48 HI.out.1 HI.out.2.1 HI.out.2.2.1 .i64 .i64 1100 1100 rfl rfl rfl (by rw [HI.out.2.2.2.1]; omega) (by decide) T3.out.z ?_; intro w4 o4 g4)
  have R0 : Hid (FRl w w4 n (.slice (some ⟨w3.heap.size, 0, none⟩) 0 1100) (upTo 0) S0) := ⟨T3.out.fr0 (Fr.ofGrown g4), F3.out.trans (Fr.ofGrown g4), o4⟩
  clear o4 g4 T3 F3
  go_loopw [7, 8] (fun v i wr => ∃ j : Nat, j ≤ 1000 ∧ i = .int .i64 j ∧ FRl w wr n v (upTo j) S0) (fun _ i _ => 1000 - (intOf i).toNat)
  case atStart => exact ⟨0, Nat.zero_le _, rfl, R0.out⟩
  case round =>
    obtain ⟨j, hj, rfl, hR⟩ := hrel
    have HR : Hid (FRl w wr n u7 (upTo j) S0) := hR
    clear hR
    by_cases hlt : j < 1000
    · have hltI : (j : Int) < 1000 := by omega
      have A1 : Hid (Fr [] wr (wr.alloc (.cells #[.int .i64 j] 3))) := (Fr.refl _ _).alloc _
      have HC : Hid ((wr.alloc (.cells #[.int .i64 j] 3)).cell? ⟨wr.heap.size, 0, none⟩ = some (.int .i64 j)) := at_cells (heap_alloc_new _ _) 0 rfl
      have HO : Hid ((wr.alloc (.cells #[.int .i64 j] 3)).ownsRow (n + 4) 3 1 u7 (upTo j).length ((upTo j).map (Value.int .i64))) := own_fr HR.out.2.2.out A1.out (by simp)
      have HZ : Hid (n + 4 ≤ (wr.alloc (.cells #[.int .i64 j] 3)).heap.size) := Nat.le_trans HR.out.1.out.z A1.out.size
      go_wp2_with (refine wpList_append_fp _ rfl (.tmp 38) (.tmp 40) 48 rfl (n + 4) 3 i3 z3 1 8 Try.underlying48 HI.out.1 HI.out.2.1 HI.out.2.2.1 HI.out.2.2.2.1 HI.out.2.2.2.2 (by decide) u7 (upTo j).length ((upTo j).map (Value.int .i64)) rfl HO.out ⟨wr.heap.size, 0, none⟩ 1 1 ([(j : Int)].map (Value.int .i64)) rfl rfl (fun q u hu => by cases q with | zero => (simp at hu; subst hu; exact HC.out) | succ q => simp at hu) (fun u hu => by simp at hu; subst hu; rfl) (by rw [upTo_len]; unfold maxLen; omega) (by rw [upTo_len]; omega) HZ.out ?_; intro v5 w5 o5 g5 l5)
      have R5 : Hid (FRl w w5 n v5 (upTo (j + 1)) S0) := by rw [upTo_succ]; exact HR.out.app HS1.out A1.out rfl o5 g5
      clear o5 g5 l5
      go_roundw
      case rel => exact ⟨j + 1, hlt, by go_num, R5.out⟩
      case measure => simp [intOf]; omega
    · have hj1 : j = 1000 := by omega
      subst hj1
      clear hlt
      have HO : Hid (wr.ownsRow (n + 4) 3 1 u7 (upTo 1000).length ((upTo 1000).map (Value.int .i64))) := HR.out.2.2.out
      have HAW := HAT.out wr HR.out.2.1.out
      have HAW2 : Hid (∀ ad, a = some ad → ∀ j u, (l.map (Value.int .i64))[j]? = some u → wr.cell? (ad.add j) = some u) := HAW
      clear HAW
      go_wp2_with (refine wpList_append_src _ rfl (.tmp 42) (.tmp 43) 48 rfl (n + 4) 3 i3 z3 1 8 Try.underlying48 HI.out.1 HI.out.2.1 HI.out.2.2.1 HI.out.2.2.2.1 HI.out.2.2.2.2 (by decide) u7 (upTo 1000).length ((upTo 1000).map (Value.int .i64)) rfl HO.out a N c (l.map (Value.int .i64)) rfl (by rw [List.length_map, ← HN.out]; omega) (fun e => by have := HNO.out e; rw [HN.out]; exact this) HAW2.out (fun u hu => by obtain ⟨y, _, rfl⟩ := List.mem_map.1 hu; rfl) (by rw [upTo_len]; unfold maxLen; omega) (by rw [upTo_len]; omega) HR.out.1.out.z ?_; intro v5 w5 o5 g5 l5)
      have R5 : Hid (FRl w w5 n v5 (allL l 0) S0) := by
        have := HR.out.app HS1.out (Fr.refl _ _) HN.out o5 g5
        have e : allL l 0 = upTo 1000 ++ l := by simp [allL, upTo]
        rw [e]
        exact this
      clear o5 g5 l5 HO HAW2 HR
      go_loopw [7, 9] (fun v i wr => ∃ j : Nat, j ≤ M ∧ i = .int .i64 j ∧ FRl w wr n v (allL l j) S0) (fun _ i _ => M - (intOf i).toNat)
      case atStart => exact ⟨0, Nat.zero_le _, rfl, R5.out⟩
      case round =>
        obtain ⟨j, hj, rfl, hR⟩ := hrel
        have HR : Hid (FRl w wr n u7 (allL l j) S0) := hR
        clear hR
        by_cases hlt : j < M
        · have hltI : (j : Int) < M := by omega
          have hjs : (j : Int) ≤ 20 := by omega
          have A1 : Hid (Fr [] wr (wr.alloc (.cells #[.int .i64 (5000 + (j : Int))] 3))) := (Fr.refl _ _).alloc _
          have HC : Hid ((wr.alloc (.cells #[.int .i64 (5000 + (j : Int))] 3)).cell? ⟨wr.heap.size, 0, none⟩ = some (.int .i64 (5000 + (j : Int)))) := at_cells (heap_alloc_new _ _) 0 rfl
          have HO : Hid ((wr.alloc (.cells #[.int .i64 (5000 + (j : Int))] 3)).ownsRow (n + 4) 3 1 u7 (allL l j).length ((allL l j).map (Value.int .i64))) := own_fr HR.out.2.2.out A1.out (by simp)
          have HZ : Hid (n + 4 ≤ (wr.alloc (.cells #[.int .i64 (5000 + (j : Int))] 3)).heap.size) := Nat.le_trans HR.out.1.out.z A1.out.size
          go_wp2_with (refine wpList_append_fp _ rfl (.tmp 50) (.tmp 53) 48 rfl (n + 4) 3 i3 z3 1 8 Try.underlying48 HI.out.1 HI.out.2.1 HI.out.2.2.1 HI.out.2.2.2.1 HI.out.2.2.2.2 (by decide) u7 (allL l j).length ((allL l j).map (Value.int .i64)) rfl HO.out ⟨wr.heap.size, 0, none⟩ 1 1 ([5000 + (j : Int)].map (Value.int .i64)) rfl rfl (fun q u hu => by cases q with | zero => (simp at hu; subst hu; exact HC.out) | succ q => simp at hu) (fun u hu => by simp at hu; subst hu; rfl) (by rw [allL_len, ← HN.out]; unfold maxLen; omega) (by rw [allL_len, ← HN.out]; omega) HZ.out ?_; intro v5 w5 o5 g5 l5)
          have R6 : Hid (FRl w w5 n v5 (allL l (j + 1)) S0) := by rw [allL_succ]; exact HR.out.app HS1.out A1.out rfl o5 g5
          clear o5 g5 l5
          go_roundw
          case rel => exact ⟨j + 1, hlt, by go_num, R6.out⟩
          case measure => simp [intOf]; omega
        · have hjM : j = M := by omega
          subst hjM
          clear hlt
          obtain ⟨L, hL⟩ : ∃ L, L = allL l j := ⟨_, rfl⟩
          rw [← hL] at HR
          have HLW : Hid (∀ y ∈ L, (Lit.int .i64 y).wf = true) := by rw [hL]; exact allL_wf HP.out hM20
          obtain ⟨T, hT⟩ : ∃ T, T = L.length := ⟨_, rfl⟩
          have HTL : Hid (T = L.length) := hT
          have hT3 : T = 1000 + N + j := by rw [hT, hL, allL_len, ← HN.out]
          have hT2 : T ≤ 2000 := by omega
          have hT0 : 0 < T := by omega
          have hTI : (T : Int) ≤ 2000 := by omega
          have HO0 := HR.out.2.2.out
          rw [← hT] at HO0
          obtain ⟨g, cap, hv, hz1⟩ := own_cells (j := 0) (x := .int .i64 (L[0]'(by omega))) HO0 (by rw [List.getElem?_map, List.getElem?_eq_getElem (by omega)]; rfl)
          subst hv
          have R7 : Hid (FR3 w wr n g cap T L (fulS L 0)) := ⟨by rw [show fulS L 0 = S0 from HS0.out.symm]; exact HR.out.1, HR.out.2.1, HO0⟩
          clear hz1; clear HO0 HR hT3 hT hL
          go_wp2_with fail
          go_loopw [11, 12, 57] (fun _ _ i wr => ∃ j : Nat, j ≤ T ∧ i = .int .i64 j ∧ FR3 w wr n g cap T L (fulS L j)) (fun _ _ i _ => T - (intOf i).toNat)
          case atStart => exact ⟨0, Nat.zero_le _, rfl, R7.out⟩
          case round =>
            obtain ⟨j, hj, rfl, hT, hF, hO⟩ := hrel
            by_cases hlt : j < T
            · have G0 : Hid (Good (fulS L j)) := fulS_good HLW.out (by omega)
              have hx : L[j]? = some (L[j]'(by rw [← HTL.out]; exact hlt)) := List.getElem?_eq_getElem _
              generalize L[j]'(by rw [← HTL.out]; exact hlt) = y at hx
              have HX : Hid (L[j]? = some y) := hx
              have HK : Hid (kw (keyN y)) := kw_keyN (HLW.out y (List.mem_of_getElem? hx))
              have c0 : wr.cell? ⟨g, j, none⟩ = some (.int .i64 y) := own_read hO.out (by rw [List.getElem?_map, hx]; rfl)
              have hltI : (j : Int) < T := by omega
              obtain ⟨X, hX⟩ : ∃ X, X = wr.alloc (.cells (kc (keyN y)) 28) := ⟨_, rfl⟩
              have zz := heap_alloc_new wr (.cells Z28 28)
              have HS : Hid ((wr.alloc (.cells Z28 28)).setRow wr.heap.size (kc (keyN y)) = X) := by rw [hX]; exact World.setRow_alloc_new wr _ _ _
              have FX : Fr [] wr X := by rw [hX]; exact (Fr.refl _ _).alloc _
              have XX : Hid (X.heap[wr.heap.size]? = some (.cells (kc (keyN y)) 28 (0, 0))) := by rw [hX]; exact heap_alloc_new _ _
              have TX : Hid (Two X n (fulS L j)) := hT.out.fr0 FX
              have HF : Hid (Fr [] w X) := hF.out.trans FX
              have HOX : Hid (X.ownsRow (n + 4) 3 1 (.slice (some ⟨g, 0, none⟩) T cap) T (L.map (Value.int .i64))) := own_fr hO.out FX (by simp)
              have HZ : Hid (n + 4 ≤ wr.heap.size) := hT.out.z
              unfold Z28 at zz HS
              clear hX FX hT hF hO hx
              go_wp2_with (refine wpList_store_row rfl 28 (.tmp 12) (.tmp 62) rfl wr.heap.size (kc (keyN y)) rfl rfl 28 _ zz (by rw [info28, kc_size]) (by rw [kc_size]; rfl) (kc_one _) ?_; rw [HS.out])
              clear zz HS c0
              have HE : Hid (fulS L (j + 1) = (hitB (fulS L j) (keyN y)).1) := fulS_hit HX.out
              refine reg5a (k := keyN y) (S := fulS L j) (a := n + 2) (ma := n) (ca := n + 1) (rb := n + 3) (xb := wr.heap.size) (B := n + 4) TX.out.a TX.out.r TX.out.z G0.out.ok (by have := G0.out.ent; omega) G0.out.len G0.out.kw HK.out ?_ (by omega) (by omega) (by omega) (by omega) (by omega) (by omega) ?_
              · intro w' f; exact range_box ((f.block _ (Array.getElem?_eq_some_iff.1 XX.out).1 (by have := HZ.out; simp; omega) (.inr (fun c t z hc => by rw [XX.out] at hc; cases hc; rfl))).trans XX.out)
              · intro n63 n64 n65 n66 n67 n68 X2 f2 a2 r2
                have R2 : Hid (FR3 w X2 n g cap T L (fulS L (j + 1))) := by
                  have hg := (own_type HOX.out rfl).1
                  refine ⟨⟨by rw [HE.out]; exact a2, by rw [HE.out]; exact r2, Nat.le_trans TX.out.z f2.size⟩, HF.out.overG f2 (by have := HS1.out; omega) (fun i hi => by have := HS1.out; simp at hi; omega), own_gr HOX.out f2 rfl (fun q hq => ?_)⟩
                  have hq2 : q = g := by simpa [Value.ownBlock] using hq.symm
                  have hg2 : n + 4 ≤ q := by rw [hq2]; exact hg
                  intro hm
                  simp at hm
                  omega
                clear f2 a2 r2
                go_wp2
                go_roundw
                case rel => exact ⟨j + 1, hlt, by go_num, R2.out⟩
                case measure => simp [intOf]; omega
            · have hjT : j = T := by omega
              subst hjT
              have G1 : Hid (Good (fulS L j)) := fulS_good HLW.out (by omega)
              obtain ⟨S, hS⟩ : ∃ S, S = fulS L j := ⟨_, rfl⟩
              have R1 : Hid (FR3 w wr n g cap j L S) := by rw [hS]; exact ⟨hT, hF, hO⟩
              rw [← hS] at G1
              obtain ⟨T, hTj⟩ : ∃ T, T = j := ⟨_, rfl⟩
              subst hTj
              clear hS hlt hT hF hO
              go_wp2_with fail
              go_loopw [14, 15, 73] (fun _ _ i wr => ∃ j : Nat, j ≤ T ∧ i = .int .i64 j ∧ FR3 w wr n g cap T L S) (fun _ _ i _ => T - (intOf i).toNat)
              case atStart => exact ⟨0, Nat.zero_le _, rfl, R1.out⟩
              case round =>
                obtain ⟨j, hj, rfl, hT, hF, hO⟩ := hrel
                by_cases hlt : j < T
                · have hx : L[j]? = some (L[j]'(by rw [← HTL.out]; exact hlt)) := List.getElem?_eq_getElem _
                  generalize L[j]'(by rw [← HTL.out]; exact hlt) = y at hx
                  have HX : Hid (L[j]? = some y) := hx
                  have HK : Hid (kw (keyN y)) := kw_keyN (HLW.out y (List.mem_of_getElem? hx))
                  have c0 : wr.cell? ⟨g, j, none⟩ = some (.int .i64 y) := own_read hO.out (by rw [List.getElem?_map, hx]; rfl)
                  have hltI : (j : Int) < T := by omega
                  obtain ⟨X, hX⟩ : ∃ X, X = wr.alloc (.cells (kc (keyN y)) 28) := ⟨_, rfl⟩
                  have zz := heap_alloc_new wr (.cells Z28 28)
                  have HS : Hid ((wr.alloc (.cells Z28 28)).setRow wr.heap.size (kc (keyN y)) = X) := by rw [hX]; exact World.setRow_alloc_new wr _ _ _
                  have FX : Fr [] wr X := by rw [hX]; exact (Fr.refl _ _).alloc _
                  have XX : Hid (X.heap[wr.heap.size]? = some (.cells (kc (keyN y)) 28 (0, 0))) := by rw [hX]; exact heap_alloc_new _ _
                  have TX : Hid (Two X n S) := hT.out.fr0 FX
                  have HF : Hid (Fr [] w X) := hF.out.trans FX
                  have HOX : Hid (X.ownsRow (n + 4) 3 1 (.slice (some ⟨g, 0, none⟩) T cap) T (L.map (Value.int .i64))) := own_fr hO.out FX (by simp)
                  have HZ : Hid (n + 4 ≤ wr.heap.size) := hT.out.z
                  unfold Z28 at zz HS
                  clear hX FX hT hF hO hx
                  go_wp2_with (refine wpList_store_row rfl 28 (.tmp 15) (.tmp 78) rfl wr.heap.size (kc (keyN y)) rfl rfl 28 _ zz (by rw [info28, kc_size]) (by rw [kc_size]; rfl) (kc_one _) ?_; rw [HS.out])
                  clear zz HS c0
                  refine reg5b (k := keyN y) (S := S) (a := n + 2) (ma := n) (ca := n + 1) (rb := n + 3) (xb := wr.heap.size) (B := n + 4) TX.out.a TX.out.r G1.out.ok G1.out.len G1.out.kw HK.out ?_ ?_
                  · intro w' f; exact range_box ((f.block _ (Array.getElem?_eq_some_iff.1 XX.out).1 (by simp)).trans XX.out)
                  · intro n79 n80 n81 n82 n83 n84 X2 f2
                    have R2 : Hid (FR3 w X2 n g cap T L S) := ⟨TX.out.fr0 f2, HF.out.trans f2, own_fr HOX.out f2 (by simp)⟩
                    clear f2
                    go_wp2
                    go_roundw
                    case rel => exact ⟨j + 1, hlt, by go_num, R2.out⟩
                    case measure => simp [intOf]; omega
                · have hjT : j = T := by omega
                  subst hjT
                  have HT : Hid (Two wr n S) := hT
                  have HF : Hid (Fr [] w wr) := hF
                  clear hlt hT hF hO
                  go_wp2_with fail
                  refine reg5c (S := S) (a := n + 2) (ma := n) (ca := n + 1) (rb := n + 3) (B := n + 4) HT.out.a HT.out.r G1.out.ok G1.out.len G1.out.kw ?_
                  intro n87 n88 n89 n90 n91 n92 n93 n94 X2 f2
                  have HF2 : Hid (Fr [] w X2) := HF.out.trans f2
                  clear f2
                  go_wp2
                  go_ret
                  exact ⟨rfl, HF2.out⟩
end Go.Proofs.Ytjeddgjndpdhoaa
