/-
  Things laid down in another order are alike and are shown alike; conditions: what comes in can be read and is not too much, the library's table lies as told.
-/
import Derived.Test.YtefkcmeeagflmaaDoorMhMvB
import Derived.Test.YtefkcmeeagflmaaDoorMhRchW
import Derived.Test.YtefkcmeeagflmaaDoorMgDNND
import Derived.Test.YtefkcmeeagflmaaDoorMgLJPN
import Derived.BigRegion
namespace Go.Proofs.YtefkcmeeagflmaaDoor
open Go.RowKit
set_option linter.unusedVariables false
set_option linter.unusedSimpArgs false

set_option maxRecDepth 100000 in
set_option maxHeartbeats 16000000 in
theorem isoMoved_walk (L : List OR) (w : World) (a0 : Option Addr) (len cap : Nat) (hlen : L.length = len) (hL : ORs w.heap.size w a0 L) (hsrc : ∀ (i : Nat) (x : OR), L[i]? = some x → Src w.heap.size w x.a x.m x.c x.xs) (hF : ∀ y, y ∈ L → OFn y) (ht : totO L ≤ 2000000)
    (xs : List (Int × Int)) (a1 : Option Addr) (n c1 : Nat) (hx : Src w.heap.size w a1 n c1 xs) (hc1 : n ≤ c1) (hwx : ∀ c, c ∈ xs → (Lit.int .i64 c.2).wf = true) (hn : n ≤ 2000000)
    (zs : List Int) (a2 : Option Addr) (m c2 : Nat) (hzl : zs.length = m) (hz : ∀ (i : Nat) (z : Int), zs[i]? = some z → ∃ g o, a2 = some ⟨g, o, none⟩ ∧ g < w.heap.size ∧ w.cell? ⟨g, o + i, none⟩ = some (.int .i64 z)) (hm : m ≤ 2000000) (TT : Pw w) :
    Calls Tryd.prog 7 #[.slice a0 len cap, .slice a1 n c1, .slice a2 m c2] w fun e w' => e = .returned (.bool true) ∧ Fr [] w w' := by
  go_enter Tryd.func7, Tryd.ntmps7
  go_wp2_with fail
  refine (awake_any w TT).mono ?_
  rintro e w1 ⟨rfl, F1⟩
  go_wp2_with fail
  refine (few_any L w1 a0 len cap a1 n c1 w1.heap.size (Nat.le_refl _) hlen (hL.fr F1 (Nat.le_refl _)) ht hn).mono ?_
  rintro e w2 ⟨rfl, b2⟩
  have f2 := Fr.ofBelow b2
  have F2 := F1.trans f2
  by_cases hfew : n + totO L ≤ 300
  · rw [decide_eq_true hfew]
    have hll : len ≤ 300 := by have := totO_len L; omega
    have hlI : (len : Int) ≤ 300 := by omega
    have hmI : (m : Int) ≤ 2000000 := by omega
    have HLE : Hid (L.length = len) := hlen
    have HZL : Hid (zs.length = m) := hzl
    have HFW := hidM hfew
    have HL := hidM hL
    have HS := hidM hsrc
    have HF := hidM hF
    have HX := hidM hx
    have HZ := hidM hz
    have HF2 := hidM F2
    have hmk := run_make_row' (P := Tryd.prog) 39 3 (.int .i64 0) 8 under39 info3 rfl .i64 .i64 len (by omega) (by omega)
    clear hL hsrc hF hx hz hlen hzl hfew F1 f2 b2 ht hn
    go_wp2
    have T0 := World.rowIs_made w2 (.int .i64 0) len 3
    have G0 : Fr [] w (w2.alloc (.cells (madeCells #[.int .i64 0] len) 3)) := F2.alloc _
    have HK : Hid (w.heap.size ≤ w2.heap.size) := F2.size
    clear hmk F2
    generalize w2.heap.size = kt at *
    generalize w2.alloc (.cells (madeCells #[.int .i64 0] len) 3) = W0 at *
    go_loopw [8, 29] (fun _ ix wr => ∃ k : Nat, k ≤ len ∧ ix = .int .i64 k ∧ Fr [] w wr ∧ wr.rowIs kt 3 len (fun x => .int .i64 (if x < k then (x : Int) else 0))) (fun _ ix _ => len - (intOf ix).toNat)
    case atStart => exact ⟨0, Nat.zero_le _, rfl, G0, T0.congr (fun i _ => by simp)⟩
    case round =>
      obtain ⟨k, hk, rfl, fw, tw⟩ := hrel
      clear G0 T0
      by_cases hlt : k < len
      · have hkI : (k : Int) < len := by omega
        have c1 := tw.cell hlt
        rw [if_neg (by omega)] at c1
        have z1 := tw.frozen k
        have HW := hidM ((tw.set k (.int .i64 (k : Int))).congr (g := fun x => .int .i64 (if x < k + 1 then (x : Int) else 0)) (fun i hi => by
          by_cases e : i = k
          · subst e; simp
          · simp only [if_neg e]
            by_cases e2 : i < k
            · rw [if_pos e2, if_pos (by omega)]
            · rw [if_neg e2, if_neg (by omega)]))
        have HFR := hidM (fw.setCell (p := ⟨kt, k, none⟩) (.inr HK.out) (.int .i64 (k : Int)))
        clear tw fw
        go_wp2
        go_roundw
        case rel => exact ⟨k + 1, hlt, by go_num, HFR.out, HW.out⟩
        case measure => simp [intOf]; omega
      · have hkI : ¬ (k : Int) < len := by omega
        have HT : Hid (wr.rowIs kt 3 len (fun x => .int .i64 (x : Int))) := tw.congr (fun i hi => by rw [if_pos (by omega)])
        have HFR := hidM fw
        clear tw fw
        go_wp2
        go_loopw [9, 10, 39] (fun _ _ ix wq => ∃ (k : Nat) (σ τ : Nat → Nat), k ≤ m ∧ ix = .int .i64 k ∧ Fr [] w wq ∧ Ord len σ τ ∧ wq.rowIs kt 3 len (fun x => .int .i64 (σ x : Int))) (fun _ _ ix _ => m - (intOf ix).toNat)
        case atStart => exact ⟨0, _, _, Nat.zero_le _, rfl, HFR.out, Ord.id len, HT.out⟩
        case round =>
          clear HT HFR
          obtain ⟨k, σ, τ, hk, rfl, fw, hO, tw⟩ := hrel
          have HOR := hidM hO
          by_cases hlt : k < m
          · have hkI : (k : Int) < m := by omega
            have hzk : zs[k]? = some (zs[k]'(by rw [HZL.out]; exact hlt)) := List.getElem?_eq_getElem _
            generalize zs[k]'(by rw [HZL.out]; exact hlt) = z at *
            obtain ⟨g, o, e, hg, hc⟩ := HZ.out k z hzk
            subst e
            have hc1 := fw.cell1 hc (by simp)
            have HTW := hidM tw
            have HFR := hidM fw
            clear hzk hc hO
            by_cases q1 : k < len
            · have q1I : (k : Int) < len := by omega
              by_cases q2 : 0 ≤ z
              · by_cases q3 : z < len
                · obtain ⟨j, rfl⟩ := Int.eq_ofNat_of_zero_le q2
                  have hj : j < len := by omega
                  have ck := tw.cell q1
                  have cj := tw.cell hj
                  have zk := tw.frozen k
                  have zj := tw.frozen j
                  have t1 := tw.set k (.int .i64 (σ j : Int))
                  have c3 := t1.cell hj
                  have z3 := t1.frozen j
                  have HT2 := hidM ((t1.set j (.int .i64 (σ k : Int))).congr (g := fun x => .int .i64 (σ (sw k j x) : Int)) (fun i hi => by
                    unfold sw
                    by_cases e1 : i = j
                    · subst e1
                      by_cases e2 : i = k
                      · subst e2; simp
                      · simp [e2]
                    · by_cases e2 : i = k
                      · subst e2; simp [e1]
                      · simp [e1, e2]))
                  generalize (if j = k then Value.int .i64 (σ j : Int) else Value.int .i64 (σ j : Int)) = old at c3
                  clear tw fw t1 q2
                  go_wp2_with fail
                  go_region
                  go_wp2
                  go_roundw
                  case rel => exact ⟨k + 1, _, _, hlt, by go_num, ((HFR.out.setCell (.inr HK.out) _).setCell (.inr HK.out) _).drew, HOR.out.swap q1 hj, HT2.out⟩
                  case measure => simp [intOf]; omega
                · have q3I : ¬ z < (len : Int) := q3
                  clear tw fw
                  go_wp2
                  go_roundw
                  case rel => exact ⟨k + 1, σ, τ, hlt, by go_num, HFR.out, HOR.out, HTW.out⟩
                  case measure => simp [intOf]; omega
              · have q2I : decide (0 ≤ z) = false := decide_eq_false q2
                clear tw fw
                go_wp2
                go_roundw
                case rel => exact ⟨k + 1, σ, τ, hlt, by go_num, HFR.out, HOR.out, HTW.out⟩
                case measure => simp [intOf]; omega
            · have q1I : ¬ (k : Int) < len := by omega
              clear tw fw
              go_wp2
              go_roundw
              case rel => exact ⟨k + 1, σ, τ, hlt, by go_num, HFR.out, HOR.out, HTW.out⟩
              case measure => simp [intOf]; omega
          · have hkI : ¬ (k : Int) < m := by omega
            have HTW := hidM tw
            have HFR := hidM fw
            clear tw fw hO
            obtain ⟨i41, hi41, hz41, hs41, hby41⟩ := info_parts info41
            have hmk : ∀ w' : World, (Instr.makeSlice 22 (.int .i64 (len : Int)) (.int .i64 (len : Int))).run Tryd.prog w' = .ok (.slice (some ⟨w'.heap.size, 0, none⟩) len len) (w'.alloc (.cells (madeCells #[.int .i64 0, .slice none 0 0] (len * 2)) 41)) := fun w' => by
              have := run_make (P := Tryd.prog) w' 22 41 i41 (.agg #[.int .i64 0, .slice none 0 0]) under22 hi41 hz41 .i64 .i64 len len (by omega) (Int.le_refl _) (by rw [hby41]; omega) (by omega)
              rw [hs41] at this
              exact this
            clear hi41 hz41 hs41 hby41
            go_wp2
            clear hmk
            have HMZ : Hid (MV (wr.alloc (.cells (madeCells #[.int .i64 0, .slice none 0 0] (len * 2)) 41)) wr.heap.size len σ L 0 (fun _ => ⟨0, none, 0, 0, []⟩)) := by
              have h1 := World.rowIs_alloc wr (madeCells #[.int .i64 0, .slice none 0 0] (len * 2)) 41 (fun i => (madeCells #[.int .i64 0, .slice none 0 0] (len * 2))[i]!) (fun i hi => by simp [hi])
              rw [size_madeCells] at h1
              exact MV.nil h1 _
            have HF3 := hidM (HFR.out.alloc (.cells (madeCells #[.int .i64 0, .slice none 0 0] (len * 2)) 41))
            have HT3 := hidM (HTW.out.alloc (.cells (madeCells #[.int .i64 0, .slice none 0 0] (len * 2)) 41))
            have HKM : Hid (w.heap.size ≤ wr.heap.size ∧ kt < wr.heap.size) := ⟨HFR.out.size, HTW.out.lt⟩
            clear HTW HFR
            generalize wr.heap.size = km at *
            generalize wr.alloc (.cells (madeCells #[.int .i64 0, .slice none 0 0] (len * 2)) 41) = W3 at *
            go_loopw [12, 13, 78] (fun _ _ ix wq => ∃ (k : Nat) (G : Nat → OR), k ≤ len ∧ ix = .int .i64 k ∧ Fr [] w wq ∧ wq.rowIs kt 3 len (fun x => .int .i64 (σ x : Int)) ∧ MV wq km len σ L k G) (fun _ _ ix _ => len - (intOf ix).toNat)
            case atStart => exact ⟨0, _, Nat.zero_le _, rfl, HF3.out, HT3.out, HMZ.out⟩
            case round =>
              clear HF3 HT3 HMZ
              obtain ⟨k, G, hk, rfl, fw, tw, mv⟩ := hrel
              by_cases hlt : k < len
              · have hkI : (k : Int) < len := by omega
                have hxk : L[k]? = some (L[k]'(by rw [HLE.out]; exact hlt)) := List.getElem?_eq_getElem _
                generalize L[k]'(by rw [HLE.out]; exact hlt) = x at *
                obtain ⟨g, o, e, hg, hA⟩ := HL.out k x hxk
                subst e
                have x0 := fw.cell1 hA.c0 (by simp)
                have x1 := fw.cell1 hA.c1 (by simp)
                have hsx := (HS.out k x hxk).fr fw (by simp)
                have hxm : x.m ≤ 300 := by have := totO_at L k x hxk; have := HFW.out; omega
                have HXK := hidM hxk
                have g1 : Fr [] wr (wr.alloc (.cells #[.int .i64 x.r, .slice x.a x.m x.c] 41)) := (Fr.refl _ _).alloc _
                have bx := heap_alloc_new wr (.cells #[.int .i64 x.r, .slice x.a x.m x.c] 41)
                have HF4 := hidM (fw.trans g1)
                have HT4 := hidM (row_fr tw g1 (by simp))
                have HM4 := hidM (mv.fr g1)
                have HS4 := hidM ((hsx.fr g1 (by simp)).lies)
                have hsl := hidM hsx.len
                have hkk : Hid (km < wr.heap.size) := by obtain ⟨f, hr, _⟩ := mv; exact hr.lt
                clear hA hxk hsx tw mv fw g1
                go_upto_region 21 with fail
                clear x0 x1
                generalize wr.heap.size = k13 at *
                generalize wr.alloc (.cells #[.int .i64 x.r, .slice x.a x.m x.c] 41) = W4 at *
                have HBX := hidM bx
                obtain ⟨f, hr, hj⟩ := HM4.out
                have HR := hidM hr
                obtain ⟨hs1, hs2⟩ := HOR.out.fwd k hlt
                have hsI : (σ k : Int) < len := by omega
                have HNE : Hid (k13 ∉ [km] ∧ kt ∉ [km]) := ⟨by have := hkk.out; simp; omega, by have := HKM.out.2; simp; omega⟩
                have y0 : ∀ w', Fr [km] W4 w' → w'.cell? ⟨k13, 0, none⟩ = some (.int .i64 x.r) := fun w' h => h.cell1 (at_cells HBX.out 0 rfl) HNE.out.1
                have y1 : ∀ w', Fr [km] W4 w' → w'.cell? ⟨k13, 1, none⟩ = some (.slice x.a x.m x.c) := fun w' h => h.cell1 (at_cells HBX.out 1 rfl) HNE.out.1
                have t0 : ∀ w', Fr [km] W4 w' → w'.cell? ⟨kt, k, none⟩ = some (.int .i64 (σ k : Int)) := fun w' h => (row_fr HT4.out h HNE.out.2).cell hlt
                have HM0 : Hid (∀ w', Fr [] W4 w' → w'.cell? ⟨km, σ k * 2, none⟩ = some (f (σ k * 2)) ∧ w'.frozen? ⟨km, σ k * 2, none⟩ = false) := fun w' h => ⟨(row_fr HR.out h (by simp)).cell (by omega), (row_fr HR.out h (by simp)).frozen _⟩
                have HM2 : Hid (∀ w' v, Fr [] W4 w' → (w'.setCell ⟨km, σ k * 2, none⟩ v).cell? ⟨km, σ k * 2 + 1, none⟩ = some (f (σ k * 2 + 1)) ∧ (w'.setCell ⟨km, σ k * 2, none⟩ v).frozen? ⟨km, σ k * 2 + 1, none⟩ = false) := fun w' v h => by
                  have := ((row_fr HR.out h (by simp)).set (σ k * 2) v).cell (i := σ k * 2 + 1) (by omega)
                  rw [if_neg (by omega)] at this
                  exact ⟨this, ((row_fr HR.out h (by simp)).set (σ k * 2) v).frozen _⟩
                have C19 := fun w' (h : Fr [] W4 w') => moved_any (σ := σ) (row_own (row_fr HT4.out h (by simp)) (by omega)) (by omega) x.xs x.a x.m x.c hsl.out (HS4.out.fr h (by simp)) (by omega)
                have RF : Fr [] W4 W4 := Fr.refl _ _
                have RK : Fr [km] W4 W4 := Fr.refl _ _
                have HD : ∀ w' : World, Fr [km] W4 w' → Fr [km] W4 w'.drew := fun w' h => h.drew
                have HSC : ∀ (w' : World) u v, Fr [km] W4 w' → Fr [km] W4 ((w'.setCell ⟨km, σ k * 2, none⟩ u).setCell ⟨km, σ k * 2 + 1, none⟩ v) := fun w' u v h => (h.setCell (.inl (by simp)) _).setCell (.inl (by simp)) _
                generalize f (σ k * 2) = old0 at *
                generalize f (σ k * 2 + 1) = old1 at *
                clear bx hr hj
                go_region_held3 (fun w' : World => Fr [km] W4 w')
                  (with_reducible (first | assumption | exact HD _ (by assumption) | exact HSC _ _ _ (by assumption)))
                  (first | (go_at_call 19; with_reducible (refine (C19 _ (by first | exact RF.drew | exact RF)).mono ?_); rintro e w5 ⟨v, rfl, f5, o5⟩; obtain ⟨a5, c5, rfl, hc5, _⟩ := own_cap o5; have F5 : Fr [] W4 w5 := Fr.trans (by first | exact RF.drew | exact RF) f5; have F5k : Fr [km] W4 w5 := F5.sub (by simp); obtain ⟨M0, M1⟩ := HM0.out _ F5; obtain ⟨M2, M3⟩ := HM2.out _ (.int .i64 x.r) F5))
                have hk4 : k13 < W4.heap.size := (Array.getElem?_eq_some_iff.1 HBX.out).1
                have HM5 := hidM ((HM4.out.fr F5).step HOR.out hlt HXK.out (own_low o5 (by have := hkk.out; simp only [World.size_drew]; omega)))
                have HT5 := hidM (row_fr HT4.out (HSC _ (.int .i64 x.r) (.slice a5 x.m c5) F5k) HNE.out.2)
                have HF5 := hidM (((HF4.out.trans F5).setCell (p := ⟨km, σ k * 2, none⟩) (.inr HKM.out.1) (.int .i64 x.r)).setCell (p := ⟨km, σ k * 2 + 1, none⟩) (.inr HKM.out.1) (.slice a5 x.m c5))
                clear C19 y0 y1 t0 HD HSC M0 M1 M2 M3 o5 f5 F5 F5k RF RK HM0 HM2
                go_wp2
                go_roundw
                case rel => exact ⟨k + 1, _, hlt, by go_num, HF5.out, HT5.out, HM5.out⟩
                case measure => simp [intOf]; omega
              · have hkI : ¬ (k : Int) < len := by omega
                obtain rfl : k = len := by omega
                have HTW := hidM tw
                have HMV := hidM mv
                clear tw mv
                go_wp2_with fail
                refine (laid_any L wr a0 k cap HLE.out (HL.out.fr fw (Nat.le_refl _)) (by have := HFW.out; omega) (fun i x hx' => (HS.out i x hx').up fw (Nat.le_refl _))).mono ?_
                rintro e w4 ⟨rfl, ⟨sv3, sr3, T3, U3, J3, ab3⟩, f3⟩
                rw [List.take_of_length_le (by rw [HLE.out]; omega)] at ab3
                have F4 := fw.trans f3
                have mv4 := HMV.out.fr f3
                have ot := mv4.tot HOR.out HLE.out
                have os := mv4.src HOR.out HLE.out (by omega) HF.out
                have HAL := hidM (mv4.alike HOR.out HLE.out xs)
                have hol : (outL k τ G).length = k := by simp [outL]
                have oo := mv4.ors HOR.out HLE.out
                have HOF : Hid (∀ y, y ∈ outL k τ G → OFn y) := fun y hy => by obtain ⟨i, hi⟩ := List.getElem?_of_mem hy; exact (os i y hi).2
                generalize wr.heap.size = k3 at *
                generalize outL k τ G = M at *
                go_wp2_with fail
                refine (laid_any M w4 (some ⟨km, 0, none⟩) k k hol oo (by have := HFW.out; omega) (fun i x hx' => (os i x hx').1)).mono ?_
                rintro e w5 ⟨rfl, ⟨sv4, sr4, T4, U4, J4, ab4⟩, f4⟩
                rw [List.take_of_length_le (by rw [hol]; omega)] at ab4
                have hot : totO M ≤ 300 := by have := HFW.out; omega
                have hLt : totO L ≤ 300 := by have := HFW.out; omega
                have hn3 : n ≤ 300 := by have := HFW.out; omega
                have F5 := F4.trans f4
                generalize w4.heap.size = k4 at *
                have RA := J3.R.frame f4 (by simp)
                have RB := J4.R
                obtain ⟨fA, hsoA⟩ := laid_fine ab3 HF.out hLt
                obtain ⟨fB, hsoB⟩ := laid_fine ab4 HOF.out hot
                have htot : tot (L.map OR.abs) ≤ 300 := by have := wgO L HF.out 0; unfold tot; omega
                have htot2 : tot (M.map OR.abs) ≤ 300 := by have := wgO M HOF.out 0; unfold tot; omega
                have hw2 : lft wt2 (L.map OR.abs) [] ≤ 2 * totO L := wgO2 L HF.out 0
                have hw3 : lft wt2 (M.map OR.abs) [] ≤ 2 * totO M := wgO2 M HOF.out 0
                have hxl := HX.out.len
                have X5 := (HX.out.fr F5 (by simp)).lies
                have P5 := TT.fr F5 (by simp)
                have T5 := row_fr HTW.out (f3.trans f4) (by simp)
                obtain ⟨ys, hys⟩ : ∃ ys, ys = xs.map (mvV k σ) := ⟨_, rfl⟩
                have hyl : ys.length = n := by rw [hys, List.length_map, hxl]
                have hwy : ∀ c, c ∈ ys → (Lit.int .i64 c.2).wf = true := by rw [hys]; exact mv_wf HOR.out (by omega) hwx
                have HSH : Hid (showR (L.map OR.abs) xs = showR (M.map OR.abs) ys) := by unfold Hid; rw [hys]; exact show_alike HAL.out
                have C19 : ∀ w', Fr [] w5 w' → Calls Tryd.prog 19 #[.slice a1 n c1, .slice (some ⟨kt, 0, none⟩) k k] w' fun e w'' => ∃ v, e = .returned v ∧ Fr [] w' w'' ∧ w''.ownsRow w'.heap.size 45 2 v n (flat ys) := fun w' h => by
                  rw [hys]
                  exact moved_any (σ := σ) (row_own (row_fr T5 h (by simp)) (by omega)) (by omega) xs a1 n c1 hxl (X5.fr h (by simp)) (by omega)
                have C12 : ∀ w' a6 c6, Fr [] w5 w' → Lies w' a6 ys → Calls Tryd.prog 12 #[.pointer (some ⟨k3, 0, none⟩), .slice a1 n c1, .pointer (some ⟨k4, 0, none⟩), .slice a6 n c6] w' fun e w'' => e = .returned (.bool true) ∧ Fr [] w' w'' := fun w' a6 c6 h hl => by
                  refine (Same_any (RA.frame h (by simp)) (RB.frame h (by simp)) fA fB xs ys n n hxl hyl a1 a6 c1 c6 (X5.fr h (by simp)) hl (by omega) hwx hwy (by rw [ab3]; omega)).mono ?_
                  rintro e w'' ⟨r, rfl, hr, f⟩
                  have : r = true := hr.2 (by rw [ab3, ab4, hys]; exact HAL.out)
                  subst this
                  exact ⟨rfl, f⟩
                have CA : ∀ w', Fr [] w5 w' → Calls Tryd.prog 16 #[.pointer (some ⟨k3, 0, none⟩), .slice a1 n c1] w' fun e w'' => e = .returned (.string (bt (showR (L.map OR.abs) xs))) ∧ Fr [] w' w'' := fun w' h => by
                  refine (Show_any (RA.frame h (by simp)) fA hsoA (P5.fr h (by simp)) xs a1 n c1 hxl (X5.fr h (by simp)) hc1 hwx (by rw [ab3]; omega) (by rw [ab3]; omega)).mono ?_
                  rw [ab3]
                  exact fun e w'' h => h
                have CB : ∀ w' a6 c6, Fr [] w5 w' → Lies w' a6 ys → n ≤ c6 → Calls Tryd.prog 16 #[.pointer (some ⟨k4, 0, none⟩), .slice a6 n c6] w' fun e w'' => e = .returned (.string (bt (showR (L.map OR.abs) xs))) ∧ Fr [] w' w'' := fun w' a6 c6 h hl hc => by
                  refine (Show_any (RB.frame h (by simp)) fB hsoB (P5.fr h (by simp)) ys a6 n c6 hyl hl hc hwy (by rw [ab4]; omega) (by rw [ab4]; omega)).mono ?_
                  rw [ab4, HSH.out]
                  exact fun e w'' h => h
                generalize bt (showR (L.map OR.abs) xs) = S at *
                have HYL := hidM hyl
                have HFE := hidM F5
                clear J3 J4 RA RB fA fB X5 T5 hys hwy ab3 ab4 F4 F5 f3 f4 P5 hsoA hsoB hw2 hw3 htot htot2 mv4 ot os oo hol hot hLt hxl hyl HSH HAL
                have R0 : Fr [] w5 w5 := Fr.refl _ _
                go_wp2_with fail
                refine (C19 _ R0).mono ?_
                rintro e w6 ⟨v, rfl, f6, o6⟩
                obtain ⟨a6, c6, rfl, hc6, _⟩ := own_cap o6
                have l6 := own_lies0 o6 HYL.out
                go_wp2_with fail
                refine (C12 _ a6 c6 f6 l6).mono ?_
                rintro e w7 ⟨rfl, f7⟩
                have F7 := f6.trans f7
                go_wp2_with fail
                refine (CA _ F7).mono ?_
                rintro e w8 ⟨rfl, f8⟩
                have F8 := F7.trans f8
                go_wp2_with fail
                refine (C19 _ F8).mono ?_
                rintro e w9 ⟨v, rfl, f9, o9⟩
                obtain ⟨a9, c9, rfl, hc9, _⟩ := own_cap o9
                have l9 := own_lies0 o9 HYL.out
                have F9 := F8.trans f9
                go_wp2_with fail
                refine (CB _ a9 c9 F9 l9 hc9).mono ?_
                rintro e w10 ⟨rfl, f10⟩
                have G10 := hidM (HFE.out.trans (F9.trans f10))
                clear C19 C12 CA CB l6 l9 o6 o9 f6 f7 f8 f9 f10 F7 F8 F9
                go_wp2
                go_ret
                exact ⟨rfl, G10.out⟩
  · rw [decide_eq_false hfew]
    go_wp2
    go_ret
    exact ⟨rfl, F2⟩
end Go.Proofs.YtefkcmeeagflmaaDoor
