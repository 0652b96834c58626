/-
  Which lists of nodes are trees, by the document; condition: the list lies as told.
-/
import Derived.Test.YtajkkjohoedhaaaDoorTreeN
namespace Go.Proofs.YtajkkjohoedhaaaDoor
open Go.RowKit
set_option linter.unusedVariables false
set_option linter.unusedSimpArgs false

theorem count_up {U : List Bool} {r : Nat} (h : r < U.length) (hf : U.getD r false = false) : (U.set r true).count true = U.count true + 1 := by
  rw [List.count_set h]
  have : U[r] = false := by rw [List.getD_eq_getElem?_getD, List.getElem?_eq_getElem h] at hf; simpa using hf
  rw [this]
  simp

def nodeV (x : Nd) : Array Value := #[.int .i64 x.kind, .string x.text, .slice x.a x.ks.length x.c, .int .i64 x.pl]

set_option maxRecDepth 100000 in
set_option maxHeartbeats 4000000 in
theorem rcheck_any (B : Nat) (L : List Nd) (w : World) (a : Option Addr) (len cap : Nat) (hlen : L.length = len) (hL : NAt B w a L) (hm : len ≤ 2600000000000) (hB : B ≤ w.heap.size) :
    Calls Tryd.prog 12 #[.slice a len cap] w fun e w' => e = cOut (checkL L) ∧ Fr [] w w' := by
  have HL : Hid (L.length = len) := hlen
  have HB : Hid (B ≤ w.heap.size) := hB
  have hLL := hlen
  clear hB hlen
  by_cases h0 : 50000 < len
  · have HC : Hid (checkL L = (0, 2)) := check_long (by rw [HL.out]; exact h0)
    go_enter Tryd.func12, Tryd.ntmps12
    go_wp2
    go_ret2
    exact ⟨by rw [HC.out]; rfl, Fr.refl _ _⟩
  · have HS : Hid (¬ 50000 < L.length) := by unfold Hid; rw [HL.out]; exact h0
    have hmk := make_bools w len (by omega)
    have T0 : TB (w.alloc (.cells ((List.replicate len false).map Value.bool).toArray 4)) w.heap.size (List.replicate len false) := heap_alloc_new w _
    have f0 : Fr [] w (w.alloc (.cells ((List.replicate len false).map Value.bool).toArray 4)) := (Fr.refl _ _).alloc _
    generalize hw0 : w.alloc (.cells ((List.replicate len false).map Value.bool).toArray 4) = w0 at *
    clear hw0
    obtain ⟨i3, hi, hz, hz1, hby⟩ := info_parts info3
    go_enter Tryd.func12, Tryd.ntmps12
    go_wp2
    go_loopw [21] (fun i wr => ∃ p : Nat, p ≤ len ∧ i = .int .i64 p ∧ Fr [] w wr ∧ ∃ T : List Bool, TB wr w.heap.size T ∧ T.length = len ∧ Hid (nodesL L p = .ok T)) (fun i _ => len - (intOf i).toNat)
    case atStart => exact ⟨0, Nat.zero_le _, rfl, f0, _, T0, by simp, by unfold Hid; rw [nodesL, HL.out]⟩
    case round =>
      obtain ⟨p, hp, rfl, fw, T, hT, hTl, he⟩ := hrel
      clear T0 hmk
      have HTl : Hid (T.length = len) := hTl
      by_cases hlt : p < len
      · have hx : L[p]? = some (L[p]'(by rw [HL.out]; exact hlt)) := List.getElem?_eq_getElem _
        generalize L[p]'(by rw [HL.out]; exact hlt) = x at hx
        have HX : Hid (L[p]? = some x) := hx
        have hsz := fw.size
        have HGW : Hid (w.heap.size < wr.heap.size) := hT.lt
        obtain ⟨b, o, rfl, hb, hN⟩ := (hL.fr fw (by simp)) p x hx
        obtain ⟨kind, text, xa, xc, ks, pl⟩ := x
        obtain ⟨q0, q1, q2, q3, hkk0, htx, hkl, _, _⟩ := hN
        simp only at q0 q1 q2 q3 hkk0 hkl htx
        have f1 : Fr [] wr (wr.alloc (.cells #[.int .i64 kind, .string text, .slice xa ks.length xc, .int .i64 pl] 39)) := (Fr.refl _ _).alloc _
        have B1 : (wr.alloc (.cells #[.int .i64 kind, .string text, .slice xa ks.length xc, .int .i64 pl] 39)).heap[wr.heap.size]? = some (.cells #[.int .i64 kind, .string text, .slice xa ks.length xc, .int .i64 pl] 39) := heap_alloc_new wr _
        have hT1 := hT.fr f1 (by simp)
        have fw1 := fw.trans f1
        have hkk := hkk0.fr f1 (by simp)
        have hs1 : (wr.alloc (.cells #[.int .i64 kind, .string text, .slice xa ks.length xc, .int .i64 pl] 39)).heap.size = wr.heap.size + 1 := by simp
        have hLr := hL.fr fw1 (by simp)
        unfold maxLen at hkl
        clear hT hkk0 hx f1 hTl
        go_wp2
        generalize wr.alloc (.cells #[.int .i64 kind, .string text, .slice xa ks.length xc, .int .i64 pl] 39) = A at *
        have HS1 : Hid (A.heap.size = wr.heap.size + 1) := hs1
        clear hs1 hsz fw
        generalize wr.heap.size = N at *
        go_loopw [7, 29] (fun kv j wq => ∃ (q : Nat) (U : List Bool), q ≤ ks.length ∧ j = .int .i64 q ∧ Fr [w.heap.size] A wq ∧ OR wq A.heap.size kv ((ks.take q).map (kd L)) ∧ TB wq w.heap.size U ∧ U.length = len ∧ Hid (takeL p (ks.drop q) U = takeL p ks T) ∧ Hid (q ≤ U.count true)) (fun _ j _ => ks.length - (intOf j).toNat)
        case atStart => exact ⟨0, T, Nat.zero_le _, rfl, Fr.refl _ _, OR.nil _ _, hT1, HTl.out, rfl, Nat.zero_le _⟩
        case round =>
          obtain ⟨q, U, hq, rfl, fq, hO, hU, hUl, hta, hcnt⟩ := hrel
          clear hT1 q0 q1 q2 q3
          have HUl : Hid (U.length = len) := hUl
          clear hUl
          obtain ⟨av, cv, e, hcv, _⟩ := hO.slice
          have hKn : ((ks.take q).map (kd L)).length = q := by simp; omega
          rw [hKn] at e hcv
          subst e
          have HCV : Hid (q ≤ cv) := hcv
          have HNG : Hid (w.heap.size ≠ N) := by unfold Hid; have := HGW.out; omega
          clear hcv
          have hwA : Fr [] w wr := fw1.over fq (by simp)
          have hszq := fq.size
          have HSQ : Hid (A.heap.size ≤ wr.heap.size) := hszq
          clear hszq
          have hown : wr.ownsRow A.heap.size 3 1 (.slice av q cv) q (((ks.take q).map (kd L)).map (Value.int .i64)) := by
            have := hO
            unfold OR at this
            rw [hKn] at this
            exact this
          have HGA : Hid (w.heap.size < A.heap.size) := by unfold Hid; have := HS1.out; have := HGW.out; omega
          by_cases hql : q < ks.length
          · have hk : ks[q]? = some ks[q] := List.getElem?_eq_getElem hql
            have hdr := List.drop_eq_getElem_cons hql
            generalize ks[q] = k at hk hdr
            obtain ⟨kb, ko, rfl, hkb, hcell⟩ := (hkk.fr fq (by simpa using HB.out)) q k hk
            have HE : Hid (takeL p (k :: ks.drop (q + 1)) U = takeL p ks T) := by unfold Hid; rw [← hta.out, hdr]
            have HST : Hid (k < 0 ∨ (p : Int) ≤ k ∨ U.getD k.toNat false = true → takeL p ks T = none) := fun h => by rw [← HE.out, takeL, if_pos h]
            have HG : Hid (¬ (k < 0 ∨ (p : Int) ≤ k ∨ U.getD k.toNat false = true) → takeL p (ks.drop (q + 1)) (U.set k.toNat true) = takeL p ks T) := fun h => by rw [← HE.out, takeL, if_neg h]
            have HBAD : Hid (takeL p ks T = none → checkL L = (p, 50)) := fun h => check_err HS.out (nodes_err he.out HX.out (node_take h))
            have HTK : Hid ((ks.take (q + 1)).map (kd L) = (ks.take q).map (kd L) ++ [kd L k]) := by unfold Hid; rw [List.take_add_one, hk]; simp
            clear HE hta hdr hk
            by_cases h1 : k < 0
            · have HR : Hid _ := HBAD.out (HST.out (.inl h1))
              clear HST HG HBAD hO
              go_wp2
              go_ret2
              exact ⟨by rw [HR.out]; rfl, hwA⟩
            · by_cases h2 : (p : Int) ≤ k
              · have HR : Hid _ := HBAD.out (HST.out (.inr (.inl h2)))
                clear HST HG HBAD hO
                go_wp2
                go_ret2
                exact ⟨by rw [HR.out]; rfl, hwA⟩
              · obtain ⟨r, rfl⟩ := Int.eq_ofNat_of_zero_le (show 0 ≤ k by omega)
                have hrp : r < p := by omega
                have hc := hU.cell (i := r) (by rw [HUl.out]; omega)
                simp only [Int.toNat_natCast] at HST HG
                cases h3 : U.getD r false with
                | true =>
                  have HR : Hid _ := HBAD.out (HST.out (.inr (.inr h3)))
                  rw [h3] at hc
                  clear HST HG HBAD h3 hO
                  go_wp2
                  go_ret2
                  exact ⟨by rw [HR.out]; rfl, hwA⟩
                | false =>
                  have HR : Hid _ := HG.out (by rw [h3]; simp; omega)
                  rw [h3] at hc
                  have hrl : r < L.length := by rw [HL.out]; omega
                  have hy : L[r]? = some L[r] := List.getElem?_eq_getElem hrl
                  generalize L[r] = y at hy
                  obtain ⟨b', o', e, hb', hNy⟩ := (hLr.fr fq (by simpa using HB.out)) r y hy
                  injection e with e
                  injection e with e1 e2
                  subst e1 e2
                  have c0 := hNy.c0
                  have HCU : Hid ((U.set r true).count true = U.count true + 1) := count_up (by rw [HUl.out]; omega) h3
                  have hq5 : q + 1 ≤ 50000 := by
                    have h5 := List.count_le_length (a := true) (l := U.set r true)
                    rw [HCU.out, List.length_set, HUl.out] at h5
                    have := hcnt.out
                    omega
                  have HKY : Hid (kd L (r : Int) = y.kind) := kd_at hy
                  have hbg : b ≠ w.heap.size := by have := HB.out; omega
                  have hS := hU.set r true
                  have hfz := hU.fz r
                  have hb1 := World.block_lt_of_cell? wr _ c0
                  simp only at hb1
                  have own1 : (wr.setCell ⟨w.heap.size, r, none⟩ (.bool true)).ownsRow A.heap.size 3 1 (.slice av q cv) q (((ks.take q).map (kd L)).map (Value.int .i64)) := by
                    have f : Fr [w.heap.size] wr (wr.setCell ⟨w.heap.size, r, none⟩ (.bool true)) := (Fr.refl _ _).setCell (p := ⟨w.heap.size, r, none⟩) (.inl (by simp)) _
                    have := hO.fr f (by have := HGA.out; simpa using this)
                    unfold OR at this
                    rw [hKn] at this
                    exact this
                  have gq := fq.setCell (p := ⟨w.heap.size, r, none⟩) (.inl (by simp)) (.bool true)
                  have szS : (wr.setCell ⟨w.heap.size, r, none⟩ (.bool true)).heap.size = wr.heap.size := by simp
                  clear HST HG HBAD h3 hO hNy hy
                  generalize hxs' : ((ks.take q).map (kd L)).map (Value.int .i64) = xs at *
                  have hxs : Hid (((ks.take q).map (kd L)).map (Value.int .i64) = xs) := hxs'
                  clear hxs'
                  go_wp2_with (at_builtin; refine wpList_append_own _ rfl _ _ 31 rfl A.heap.size 3 i3 (.int .i64 0) 1 8 Tryd.underlying31 hi hz hz1 hby rfl (by decide) (.slice av q cv) q xs rfl ?own ⟨wr.heap.size, 0, none⟩ 1 1 [.int .i64 y.kind] rfl rfl ?news (by simp [Value.oneCell']) (by unfold maxLen; omega) (by omega) ?base ?_)
                  case own => exact own1.alloc _
                  case base => have := HSQ.out; omega
                  intro v1 w3 hown1 hgrow _
                  have hrow : ∀ k, (Value.slice av q cv).ownBlock = some k → A.heap.size ≤ k := fun k e => (hown.lt k e).1
                  have F3 : Fr [w.heap.size] A w3 := (gq.alloc _).grown hgrow (fun k e => .inr (hrow k e))
                  have hT3 : TB w3 w.heap.size (U.set r true) := by
                    refine ((hS.fr ((Fr.refl [] _).alloc _) (by simp)).fr (Fr.ofGrown hgrow) ?_)
                    intro hm
                    have := hrow _ (by simpa using hm)
                    have := HGA.out
                    omega
                  have HOR : Hid (OR w3 A.heap.size v1 ((ks.take (q + 1)).map (kd L))) := by
                    unfold Hid OR
                    rw [HTK.out, HKY.out, List.map_append, hxs.out, List.length_append, hKn]
                    exact hown1
                  have HCN : Hid (q + 1 ≤ (U.set r true).count true) := by unfold Hid; rw [HCU.out]; have := hcnt.out; omega
                  clear hown1 hgrow hown own1 gq hS hrow hc c0 hcell
                  go_wp2
                  go_roundw
                  case rel => exact ⟨q + 1, U.set r true, hql, by go_num, F3, HOR.out, hT3, by rw [List.length_set]; exact HUl.out, HR, HCN⟩
                  case measure => simp [intOf]; omega
          · have hqe : q = ks.length := by omega
            have HTA : Hid (takeL p ks T = some U) := by
              unfold Hid
              rw [← hta.out, List.drop_of_length_le (by omega)]
              rfl
            have hKe : (ks.take q).map (kd L) = ks.map (kd L) := by rw [List.take_of_length_le (by omega)]
            rw [hKe] at hO
            have hb2 : wr.heap[N]? = some (.cells #[.int .i64 kind, .string text, .slice xa ks.length xc, .int .i64 pl] 39) := (fq.block N (by have := HS1.out; omega) (by have := HNG.out; simp; omega)).trans B1
            have d0 : wr.cell? ⟨N, 0, none⟩ = some (.int .i64 kind) := by simp [World.cell?, hb2]
            have d1 : wr.cell? ⟨N, 1, none⟩ = some (.string text) := by simp [World.cell?, hb2]
            have d2 : wr.cell? ⟨N, 2, none⟩ = some (.slice xa ks.length xc) := by simp [World.cell?, hb2]
            have d3 : wr.cell? ⟨N, 3, none⟩ = some (.int .i64 pl) := by simp [World.cell?, hb2]
            have HBAD : Hid (∀ er, nodeE L p ⟨kind, text, xa, xc, ks, pl⟩ T = .error er → checkL L = (p, er)) := fun er h => check_err HS.out (nodes_err he.out HX.out h)
            have HGOOD : Hid (nodeE L p ⟨kind, text, xa, xc, ks, pl⟩ T = .ok U → nodesL L (p + 1) = .ok U) := fun h => nodes_ok he.out HX.out h
            clear hta he HX hown
            by_cases h1 : pl < 0 ∨ kind < 1 ∨ 30 < kind
            · have HR : Hid _ := HBAD.out 50 (node_odd h1)
              clear HBAD HGOOD hO hLr
              rcases h1 with h1 | h1 | h1
              · go_wp2
                go_ret2
                exact ⟨by rw [HR.out]; rfl, hwA⟩
              · by_cases h2 : pl < 0
                · go_wp2
                  go_ret2
                  exact ⟨by rw [HR.out]; rfl, hwA⟩
                · go_wp2
                  go_ret2
                  exact ⟨by rw [HR.out]; rfl, hwA⟩
              · by_cases h2 : pl < 0
                · go_wp2
                  go_ret2
                  exact ⟨by rw [HR.out]; rfl, hwA⟩
                · go_wp2
                  go_ret2
                  exact ⟨by rw [HR.out]; rfl, hwA⟩
            · have hk : 1 ≤ kind ∧ kind ≤ 30 := by omega
              have hpl : ¬ pl < 0 := by omega
              obtain ⟨t, ls, hw⟩ := want_some hk
              have HN : Hid _ := node_rest (L := L) (n := p) (x := ⟨kind, text, xa, xc, ks, pl⟩) (T := T) hw hpl HTA.out
              have CT := fun w' => rtext_any ⟨kind, text, xa, xc, ks, pl⟩ w' htx t ls hw
              clear hw h1 HTA
              simp only at HN CT
              have CS := fun w' (f : Fr [] wr w') => shape_any w'.heap.size w' (ks.map (kd L)) av q cv kind hk (by simp; omega) (by unfold maxLen; omega) HCV.out (by
                have h9 : OR w' A.heap.size (.slice av (ks.map (kd L)).length cv) (ks.map (kd L)) := by
                  have := hO.fr f (by simp)
                  rw [hqe] at this
                  rw [List.length_map]
                  exact this
                exact h9.kat)
              clear hO hb2 hqe hKe hKn
              generalize textL t text = rt at *
              generalize shapeL kind (ks.map (kd L)) = rs at *
              cases rt with
              | false =>
                have HR : Hid (checkL L = (p, 52)) := HBAD.out 52 (by rw [HN.out]; rfl)
                clear HBAD HGOOD CS hLr
                go_wp2_with (go_at_call 25; refine (CT _).mono ?_; rintro e w' ⟨rfl, f2⟩)
                go_ret2
                exact ⟨by rw [HR.out]; rfl, hwA.trans f2⟩
              | true =>
                cases rs with
                | false =>
                  have HR : Hid (checkL L = (p, 53)) := HBAD.out 53 (by rw [HN.out]; rfl)
                  clear HBAD HGOOD hLr
                  go_wp2_with fail
                  refine (CT _).mono ?_
                  rintro e w' ⟨rfl, f2⟩
                  have e0 := f2.cell1 d0 (by simp)
                  have CS := CS w' f2
                  clear d0 d1 d2 d3 CT
                  go_wp2_with (go_at_call 26; refine CS.mono ?_; rintro e w'' ⟨rfl, rfl⟩)
                  go_ret2
                  exact ⟨by rw [HR.out]; rfl, hwA.trans f2⟩
                | true =>
                  have HR : Hid (nodesL L (p + 1) = .ok U) := HGOOD.out (by rw [HN.out]; rfl)
                  clear HBAD HGOOD hLr
                  go_wp2_with fail
                  refine (CT _).mono ?_
                  rintro e w' ⟨rfl, f2⟩
                  have e0 := f2.cell1 d0 (by simp)
                  have hU2 := hU.fr f2 (by simp)
                  have CS := CS w' f2
                  clear d0 d1 d2 d3 CT
                  go_wp2_with (go_at_call 26; refine CS.mono ?_; rintro e w'' ⟨rfl, rfl⟩)
                  go_roundw
                  case rel => exact ⟨p + 1, hlt, by go_num, hwA.trans f2, U, hU2, HUl.out, HR⟩
                  case measure => simp [intOf]; omega
      · have hpe : p = len := by omega
        subst hpe
        have HN : Hid (nodesL L L.length = .ok T) := by unfold Hid; rw [HL.out]; exact he.out
        clear he
        by_cases hzz : p = 0
        · subst hzz
          have HR : Hid (checkL L = (0, 50)) := check_empty HL.out
          go_wp2
          go_ret2
          exact ⟨by rw [HR.out]; rfl, fw⟩
        · have HZ : Hid (L.length ≠ 0) := by unfold Hid; rw [HL.out]; exact hzz
          have hp1 : (p : Int) - 1 = ((p - 1 : Nat) : Int) := by omega
          have HBAD : Hid (∀ n : Nat, n < p → (n = p - 1 ∧ kd L (n : Int) ≠ 1) ∨ (n ≠ p - 1 ∧ (kd L (n : Int) = 1 ∨ T.getD n false = false)) → checkL L = (p - 1, 50)) := fun n hn h => by
            have e := HL.out
            rw [← e]
            refine check_last HS.out HN.out HZ.out ?_
            rw [e]
            rcases h with ⟨h1, h2⟩ | ⟨h1, h2⟩
            · rw [h1] at h2; exact .inl h2
            · refine .inr (has0_of (i := n) (by omega) (by rw [HTl.out]; exact hn) ?_)
              rcases h2 with h2 | h2
              · cases hq : T.getD n false with
                | false => rfl
                | true => exact absurd h2 (prog_unused _ _ HN.out n hq)
              · exact h2
          have HKD : ∀ (n : Nat) (x : Nd), L[n]? = some x → Hid (kd L (n : Int) = x.kind) := fun n x h => kd_at h
          clear HTl hTl
          have HTl : Hid (T.length = p) := by unfold Hid; rw [nodes_length _ _ HN.out]; exact HL.out
          go_wp2
          go_loopw [91] (fun i wq => ∃ n : Nat, n ≤ p ∧ i = .int .i64 n ∧ Fr [] w wq ∧ TB wq w.heap.size T ∧ Hid (∀ j : Nat, j < n → (j = p - 1 → kd L (j : Int) = 1) ∧ (j ≠ p - 1 → T.getD j false = true))) (fun i _ => p - (intOf i).toNat)
          case atStart => exact ⟨0, Nat.zero_le _, rfl, fw, hT, fun j hj => by omega⟩
          case round =>
            obtain ⟨n, hn, rfl, fq, hTq, hok⟩ := hrel
            clear hT fw
            by_cases hlt2 : n < p
            · have hx : L[n]? = some (L[n]'(by rw [HL.out]; exact hlt2)) := List.getElem?_eq_getElem _
              generalize L[n]'(by rw [HL.out]; exact hlt2) = x at hx
              have HK := HKD n x hx
              obtain ⟨b, o, rfl, hb, hN⟩ := (hL.fr fq (by simp)) n x hx
              obtain ⟨q0, q1, q2, q3, _, _, _, _, _⟩ := hN
              have hc := hTq.cell (i := n) (by rw [HTl.out]; exact hlt2)
              have hgl := hTq.lt
              have f1 : ∀ o, Fr [] wr (wr.alloc o) := fun o => (Fr.refl _ _).alloc _
              have hbl := World.block_lt_of_cell? wr _ q0
              simp only at hbl
              have HB1 : Hid _ := HBAD.out n hlt2
              rw [HK.out] at HB1
              have HOK : Hid ((n = p - 1 → x.kind = 1) → (n ≠ p - 1 → T.getD n false = true) → ∀ j : Nat, j < n + 1 → (j = p - 1 → kd L (j : Int) = 1) ∧ (j ≠ p - 1 → T.getD j false = true)) := fun h1 h2 j hj => by
                by_cases e : j = n
                · subst e
                  exact ⟨fun h => by rw [HK.out]; exact h1 h, h2⟩
                · exact hok.out j (by omega)
              clear hx hok HK
              generalize hu : T.getD n false = u at *
              clear hu
              by_cases hlast : n = p - 1
              · have hl' : ((n : Int) == ((p - 1 : Nat) : Int)) = true := by simp; omega
                have HLA : Hid (n = p - 1) := hlast
                clear hlast
                by_cases hk : x.kind = 1
                · have HR : Hid _ := HOK.out (fun _ => hk) (fun h => absurd HLA.out h)
                  clear HOK HB1
                  cases u
                  all_goals
                    go_wp2
                    go_roundw
                    case rel => exact ⟨n + 1, hlt2, by go_num, fq.trans (f1 _), hTq.fr (f1 _) (by simp), HR⟩
                    case measure => simp [intOf]; omega
                · have hk' : (x.kind == 1) = false := by simp [hk]
                  have HR : Hid _ := HB1.out (.inl ⟨HLA.out, hk⟩)
                  clear HOK HB1 hk
                  go_wp2
                  go_ret2
                  exact ⟨by rw [HR.out]; rfl, fq.trans (f1 _)⟩
              · have hl' : ((n : Int) == ((p - 1 : Nat) : Int)) = false := by simp; omega
                have HLA : Hid (n ≠ p - 1) := hlast
                clear hlast
                by_cases hk : x.kind = 1
                · have HR : Hid _ := HB1.out (.inr ⟨HLA.out, .inl hk⟩)
                  clear HOK HB1
                  go_wp2
                  go_ret2
                  exact ⟨by rw [HR.out]; rfl, fq.trans (f1 _)⟩
                · have hk' : (x.kind == 1) = false := by simp [hk]
                  cases u with
                  | true =>
                    have HR : Hid _ := HOK.out (fun h => absurd h HLA.out) (fun _ => rfl)
                    clear HOK HB1 hk
                    go_wp2
                    go_roundw
                    case rel => exact ⟨n + 1, hlt2, by go_num, fq.trans (f1 _), hTq.fr (f1 _) (by simp), HR⟩
                    case measure => simp [intOf]; omega
                  | false =>
                    have HR : Hid _ := HB1.out (.inr ⟨HLA.out, .inr rfl⟩)
                    clear HOK HB1 hk
                    go_wp2
                    go_ret2
                    exact ⟨by rw [HR.out]; rfl, fq.trans (f1 _)⟩
            · have hne : n = p := by omega
              subst hne
              have HK1 : Hid (kd L ((L.length - 1 : Nat) : Int) = 1) := by
                unfold Hid
                rw [HL.out]
                exact (hok.out (n - 1) (by omega)).1 rfl
              have HH : Hid (has0 T (L.length - 1) = false) := by
                unfold Hid
                rw [HL.out]
                exact has0_not _ (by rw [HTl.out]; omega) (fun j hj => (hok.out j (by omega)).2 (by omega))
              have CD := rdeep_any B L wr a n cap hLL (hL.fr fq (by simp)) hm (by have := fq.size; have := HB.out; omega)
              have hdl : deepL L ≤ n := by have := deepL_le L; rw [HL.out] at this; exact this
              clear hok
              by_cases hd : 200 < deepL L
              · have HR : Hid (checkL L = (0, 51)) := check_deep HS.out HN.out HZ.out HK1.out HH.out hd
                generalize deepL L = DD at *
                go_wp2_with (go_at_call 14; refine CD.mono ?_; rintro e w' ⟨rfl, f2⟩)
                go_ret2
                exact ⟨by rw [HR.out]; rfl, fq.trans f2⟩
              · have HR : Hid (checkL L = (0, 0)) := check_ok HS.out HN.out HZ.out HK1.out HH.out hd
                generalize deepL L = DD at *
                go_wp2_with (go_at_call 14; refine CD.mono ?_; rintro e w' ⟨rfl, f2⟩)
                go_ret2
                exact ⟨by rw [HR.out]; rfl, fq.trans f2⟩
end Go.Proofs.YtajkkjohoedhaaaDoor
