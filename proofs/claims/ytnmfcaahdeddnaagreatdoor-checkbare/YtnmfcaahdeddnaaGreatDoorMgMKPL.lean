/-
  Texts of the proof, in their order: TreeN, TreeO, TreeP, TreeS, TreeR; conditions: as each says.
-/
import Derived.Laws.AppendOwn
import Derived.Laws.OwnMore
import Derived.Test.YtnmfcaahdeddnaaGreatDoorMgEAAP
namespace Go.Proofs.YtnmfcaahdeddnaaGreatDoor.T5
open Go.RowKit
set_option maxRecDepth 100000
set_option linter.unusedVariables false
set_option linter.unusedSimpArgs false

/-- A row of numbers of one's own, that grows. -/
def OR (w : World) (base : Nat) (v : Value) (K : List Int) : Prop := w.ownsRow base 3 1 v K.length (K.map (Value.int .i64))
theorem OR.nil (w : World) (base : Nat) : OR w base (.slice none 0 0) [] := World.ownsRow_nil _ _ _ _
theorem OR.fr {w w' : World} {base : Nat} {v : Value} {K : List Int} {S : List Nat} (h : OR w base v K) (f : Fr S w w') (hS : ∀ k, k ∈ S → k < base) : OR w' base v K := by
  obtain ⟨h1, h2⟩ := h
  refine ⟨h1, ?_⟩
  rcases h2 with h2 | ⟨g, cap, cur, e, hb, hg, r⟩
  · exact .inl h2
  · exact .inr ⟨g, cap, cur, e, hb, (f.block g (Array.getElem?_eq_some_iff.1 hg).1 (fun hm => by have := hS g hm; omega)).trans hg, r⟩
theorem OR.slice {w : World} {base : Nat} {v : Value} {K : List Int} (h : OR w base v K) : ∃ a c, v = .slice a K.length c ∧ K.length ≤ c ∧ (a = none → c = 0) := by
  obtain ⟨h1, h2⟩ := h
  rcases h2 with ⟨e, h0⟩ | ⟨g, cap, cur, e, hb, hg, hc, _⟩
  · exact ⟨none, 0, by rw [h0]; exact e, by omega, fun _ => rfl⟩
  · exact ⟨_, cap, e, hc, fun h => by cases h⟩
theorem OR.kat {w : World} {base : Nat} {a : Option Addr} {c : Nat} {K : List Int} (h : OR w base (.slice a K.length c) K) : KAt w.heap.size w a K := fun j k hj => by
  have hlt := (List.getElem?_eq_some_iff.1 hj).1
  obtain ⟨h1, h2⟩ := h
  rcases h2 with ⟨e, h0⟩ | ⟨g, cap, cur, e, hb, hg, hc, hm, hs, ht⟩
  · omega
  · injection e with e1 e2 e3
    subst e1
    have hcell : cur.toList[j]? = some (.int .i64 k) := by
      have : (cur.toList.take (K.length * 1))[j]? = (K.map (Value.int .i64))[j]? := by rw [ht]
      rw [List.getElem?_take_of_lt (by omega)] at this
      rw [this]
      simp [hj]
    refine ⟨g, 0, rfl, (Array.getElem?_eq_some_iff.1 hg).1, ?_⟩
    simp only [World.cell?, hg, Nat.zero_add]
    simpa using hcell
theorem Fr.ofGrown {w w' : World} {row : Option Nat} (hg : w.grownBy w' row) : Fr row.toList w w' :=
  Fr.grown (Fr.refl _ _) hg (fun k e => .inl (by rw [e]; simp))

/-! What the document says of one node. -/
theorem want_some {k : Int} (h : 1 ≤ k ∧ k ≤ 30) : ∃ t ls, wantL k = some (t, ls) := by
  have hc : k = 1 ∨ k = 2 ∨ k = 3 ∨ k = 4 ∨ k = 5 ∨ k = 6 ∨ k = 7 ∨ k = 8 ∨ k = 9 ∨ k = 10 ∨ k = 11 ∨ k = 12 ∨ k = 13 ∨ k = 14 ∨ k = 15 ∨ k = 16 ∨ k = 17 ∨ k = 18 ∨ k = 19 ∨ k = 20 ∨ k = 21 ∨ k = 22 ∨ k = 23 ∨ k = 24 ∨ k = 25 ∨ k = 26 ∨ k = 27 ∨ k = 28 ∨ k = 29 ∨ k = 30 := by omega
  rcases hc with rfl | rfl | rfl | rfl | rfl | rfl | rfl | rfl | rfl | rfl | rfl | rfl | rfl | rfl | rfl | rfl | rfl | rfl | rfl | rfl | rfl | rfl | rfl | rfl | rfl | rfl | rfl | rfl | rfl | rfl <;> exact ⟨_, _, rfl⟩
theorem node_take {L : List Nd} {n : Nat} {x : Nd} {T : List Bool} (h : takeL n x.ks T = none) : nodeE L n x T = .error 50 := by
  unfold nodeE
  split
  · rfl
  · split
    · rfl
    · simp only [h]
theorem node_odd {L : List Nd} {n : Nat} {x : Nd} {T : List Bool} (h : x.pl < 0 ∨ x.kind < 1 ∨ 30 < x.kind) : nodeE L n x T = .error 50 := by
  unfold nodeE
  split
  · rfl
  · rename_i t ls hw
    have : x.pl < 0 := by
      rcases h with h | h
      · exact h
      · rw [lookup_want _ h] at hw; cases hw
    rw [if_pos this]
theorem node_rest {L : List Nd} {n : Nat} {x : Nd} {T T' : List Bool} {t : Nat} {ls : List UInt8} (hw : wantL x.kind = some (t, ls)) (hp : ¬ x.pl < 0) (h : takeL n x.ks T = some T') : nodeE L n x T = if textL t x.text = false then .error 52 else if shapeL x.kind (x.ks.map (kd L)) = false then .error 53 else .ok T' := by
  unfold nodeE
  rw [hw]
  simp only [h]
  rw [if_neg hp, shape_fit _ _ _ _ hw]

theorem take_true {n : Nat} : ∀ (ks : List Int) (T T' : List Bool) (k : Nat), takeL n ks T = some T' → T'.getD k false = true → T.getD k false = true ∨ (k : Int) ∈ ks
  | [], T, T', k, h, ht => by simp [takeL] at h; subst h; exact .inl ht
  | q :: r, T, T', k, h, ht => by
    simp only [takeL] at h
    split at h
    · cases h
    · rename_i hn
      rcases take_true r _ _ k h ht with h1 | h1
      · by_cases e : k = q.toNat
        · refine .inr ?_
          have : (k : Int) = q := by omega
          rw [this]; simp
        · refine .inl ?_
          rw [List.getD_eq_getElem?_getD, List.getElem?_set_ne (fun e' => e e'.symm)] at h1
          rw [List.getD_eq_getElem?_getD]; exact h1
      · exact .inr (List.mem_cons_of_mem _ h1)
theorem prog_unused {L : List Nd} : ∀ (n : Nat) (T : List Bool), nodesL L n = .ok T → ∀ k : Nat, T.getD k false = true → kd L (k : Int) ≠ 1
  | 0, T, h, k, ht => by
    simp [nodesL] at h
    subst h
    rw [List.getD_eq_getElem?_getD, List.getElem?_replicate] at ht
    split at ht <;> simp at ht
  | n + 1, T, h, k, ht => by
    unfold nodesL at h
    split at h
    · cases h
    · rename_i T0 h0
      have ih := prog_unused n T0 h0 k
      split at h
      · cases h; exact ih ht
      · rename_i x hx
        split at h
        · cases h
        · rename_i T1 h1
          cases h
          unfold nodeE at h1
          split at h1
          · cases h1
          · split at h1
            · cases h1
            · split at h1
              · cases h1
              · rename_i T2 ht2
                split at h1
                · cases h1
                · split at h1
                  · cases h1
                  · rename_i hfit
                    cases h1
                    rcases take_true _ _ _ k ht2 ht with h3 | h3
                    · exact ih h3
                    · intro e
                      have := fit_kind _ _ (by simpa using hfit)
                      apply this
                      rw [← e]
                      exact List.mem_map_of_mem h3
theorem has0_of {T : List Bool} {n i : Nat} (hi : i < n) (hl : i < T.length) (h : T.getD i false = false) : has0 T n = true := by
  refine contains_mono hi ?_
  rw [take_snocB hl, h]
  simp
theorem has0_not {T : List Bool} : ∀ (n : Nat), n ≤ T.length → (∀ i, i < n → T.getD i false = true) → has0 T n = false
  | 0, _, _ => by simp [has0]
  | n + 1, hl, h => by
    rw [take_snocB (by omega), has0_not n (by omega) (fun i hi => h i (by omega)), h n (by omega)]
    rfl
end Go.Proofs.YtnmfcaahdeddnaaGreatDoor.T5
namespace Go.Proofs.YtnmfcaahdeddnaaGreatDoor.T5
open Go.RowKit
set_option maxRecDepth 100000
set_option linter.unusedVariables false
set_option linter.unusedSimpArgs false

theorem count_up {U : List Bool} {r : Nat} (h : r < U.length) (hf : U.getD r false = false) : (U.set r true).count true = U.count true + 1 := by
  rw [List.count_set h]
  have : U[r] = false := by rw [List.getD_eq_getElem?_getD, List.getElem?_eq_getElem h] at hf; simpa using hf
  rw [this]
  simp

def nodeV (x : Nd) : Array Value := #[.int .i64 x.kind, .string x.text, .slice x.a x.ks.length x.c, .int .i64 x.pl]

set_option maxRecDepth 100000 in
set_option maxHeartbeats 4000000 in
theorem rcheck_any (B : Nat) (L : List Nd) (w : World) (a : Option Addr) (len cap : Nat) (hlen : L.length = len) (hL : NAt B w a L) (hm : len ≤ 2600000000000) (hB : B ≤ w.heap.size) :
    Calls Tryz.prog 26 #[.slice a len cap] w fun e w' => e = cOut (checkL L) ∧ Fr [] w w' := by
  have HL : Hid (L.length = len) := hlen
  have HB : Hid (B ≤ w.heap.size) := hB
  have hLL := hlen
  clear hB hlen
  by_cases h0 : 50000 < len
  · have HC : Hid (checkL L = (0, 2)) := check_long (by rw [HL.out]; exact h0)
    go_enter Tryz.func26, Tryz.ntmps26
    go_wp2
    go_ret2
    exact ⟨by rw [HC.out]; rfl, Fr.refl _ _⟩
  · have HS : Hid (¬ 50000 < L.length) := by unfold Hid; rw [HL.out]; exact h0
    have hmk := make_bools w len (by omega)
    have T0 : TB (w.alloc (.cells ((List.replicate len false).map Value.bool).toArray 4)) w.heap.size (List.replicate len false) := heap_alloc_new w _
    have f0 : Fr [] w (w.alloc (.cells ((List.replicate len false).map Value.bool).toArray 4)) := (Fr.refl _ _).alloc _
    generalize hw0 : w.alloc (.cells ((List.replicate len false).map Value.bool).toArray 4) = w0 at *
    clear hw0
    obtain ⟨i3, hi, hz, hz1, hby⟩ := info_parts info3
    go_enter Tryz.func26, Tryz.ntmps26
    go_wp2
    go_loopw [21] (fun i wr => ∃ p : Nat, p ≤ len ∧ i = .int .i64 p ∧ Fr [] w wr ∧ ∃ T : List Bool, TB wr w.heap.size T ∧ T.length = len ∧ Hid (nodesL L p = .ok T)) (fun i _ => len - (intOf i).toNat)
    case atStart => exact ⟨0, Nat.zero_le _, rfl, f0, _, T0, by simp, by unfold Hid; rw [nodesL, HL.out]⟩
    case round =>
      obtain ⟨p, hp, rfl, fw, T, hT, hTl, he⟩ := hrel
      clear T0 hmk
      have HTl : Hid (T.length = len) := hTl
      by_cases hlt : p < len
      · have hx : L[p]? = some (L[p]'(by rw [HL.out]; exact hlt)) := List.getElem?_eq_getElem _
        generalize L[p]'(by rw [HL.out]; exact hlt) = x at hx
        have HX : Hid (L[p]? = some x) := hx
        have hsz := fw.size
        have HGW : Hid (w.heap.size < wr.heap.size) := hT.lt
        obtain ⟨b, o, rfl, hb, hN⟩ := (hL.fr fw (by simp)) p x hx
        obtain ⟨kind, text, xa, xc, ks, pl⟩ := x
        obtain ⟨q0, q1, q2, q3, hkk0, htx, hkl, _, _⟩ := hN
        simp only at q0 q1 q2 q3 hkk0 hkl htx
        have f1 : Fr [] wr (wr.alloc (.cells #[.int .i64 kind, .string text, .slice xa ks.length xc, .int .i64 pl] 55)) := (Fr.refl _ _).alloc _
        have B1 : (wr.alloc (.cells #[.int .i64 kind, .string text, .slice xa ks.length xc, .int .i64 pl] 55)).heap[wr.heap.size]? = some (.cells #[.int .i64 kind, .string text, .slice xa ks.length xc, .int .i64 pl] 55) := heap_alloc_new wr _
        have hT1 := hT.fr f1 (by simp)
        have fw1 := fw.trans f1
        have hkk := hkk0.fr f1 (by simp)
        have hs1 : (wr.alloc (.cells #[.int .i64 kind, .string text, .slice xa ks.length xc, .int .i64 pl] 55)).heap.size = wr.heap.size + 1 := by simp
        have hLr := hL.fr fw1 (by simp)
        unfold maxLen at hkl
        clear hT hkk0 hx f1 hTl
        go_wp2
        generalize wr.alloc (.cells #[.int .i64 kind, .string text, .slice xa ks.length xc, .int .i64 pl] 55) = A at *
        have HS1 : Hid (A.heap.size = wr.heap.size + 1) := hs1
        clear hs1 hsz fw
        generalize wr.heap.size = N at *
        go_loopw [7, 29] (fun kv j wq => ∃ (q : Nat) (U : List Bool), q ≤ ks.length ∧ j = .int .i64 q ∧ Fr [w.heap.size] A wq ∧ OR wq A.heap.size kv ((ks.take q).map (kd L)) ∧ TB wq w.heap.size U ∧ U.length = len ∧ Hid (takeL p (ks.drop q) U = takeL p ks T) ∧ Hid (q ≤ U.count true)) (fun _ j _ => ks.length - (intOf j).toNat)
        case atStart => exact ⟨0, T, Nat.zero_le _, rfl, Fr.refl _ _, OR.nil _ _, hT1, HTl.out, rfl, Nat.zero_le _⟩
        case round =>
          obtain ⟨q, U, hq, rfl, fq, hO, hU, hUl, hta, hcnt⟩ := hrel
          clear hT1 q0 q1 q2 q3
          have HUl : Hid (U.length = len) := hUl
          clear hUl
          obtain ⟨av, cv, e, hcv, _⟩ := hO.slice
          have hKn : ((ks.take q).map (kd L)).length = q := by simp; omega
          rw [hKn] at e hcv
          subst e
          have HCV : Hid (q ≤ cv) := hcv
          have HNG : Hid (w.heap.size ≠ N) := by unfold Hid; have := HGW.out; omega
          clear hcv
          have hwA : Fr [] w wr := fw1.over fq (by simp)
          have hszq := fq.size
          have HSQ : Hid (A.heap.size ≤ wr.heap.size) := hszq
          clear hszq
          have hown : wr.ownsRow A.heap.size 3 1 (.slice av q cv) q (((ks.take q).map (kd L)).map (Value.int .i64)) := by
            have := hO
            unfold OR at this
            rw [hKn] at this
            exact this
          have HGA : Hid (w.heap.size < A.heap.size) := by unfold Hid; have := HS1.out; have := HGW.out; omega
          by_cases hql : q < ks.length
          · have hk : ks[q]? = some ks[q] := List.getElem?_eq_getElem hql
            have hdr := List.drop_eq_getElem_cons hql
            generalize ks[q] = k at hk hdr
            obtain ⟨kb, ko, rfl, hkb, hcell⟩ := (hkk.fr fq (by simpa using HB.out)) q k hk
            have HE : Hid (takeL p (k :: ks.drop (q + 1)) U = takeL p ks T) := by unfold Hid; rw [← hta.out, hdr]
            have HST : Hid (k < 0 ∨ (p : Int) ≤ k ∨ U.getD k.toNat false = true → takeL p ks T = none) := fun h => by rw [← HE.out, takeL, if_pos h]
            have HG : Hid (¬ (k < 0 ∨ (p : Int) ≤ k ∨ U.getD k.toNat false = true) → takeL p (ks.drop (q + 1)) (U.set k.toNat true) = takeL p ks T) := fun h => by rw [← HE.out, takeL, if_neg h]
            have HBAD : Hid (takeL p ks T = none → checkL L = (p, 50)) := fun h => check_err HS.out (nodes_err he.out HX.out (node_take h))
            have HTK : Hid ((ks.take (q + 1)).map (kd L) = (ks.take q).map (kd L) ++ [kd L k]) := by unfold Hid; rw [List.take_add_one, hk]; simp
            clear HE hta hdr hk
            by_cases h1 : k < 0
            · have HR : Hid _ := HBAD.out (HST.out (.inl h1))
              clear HST HG HBAD hO
              go_wp2
              go_ret2
              exact ⟨by rw [HR.out]; rfl, hwA⟩
            · by_cases h2 : (p : Int) ≤ k
              · have HR : Hid _ := HBAD.out (HST.out (.inr (.inl h2)))
                clear HST HG HBAD hO
                go_wp2
                go_ret2
                exact ⟨by rw [HR.out]; rfl, hwA⟩
              · obtain ⟨r, rfl⟩ := Int.eq_ofNat_of_zero_le (show 0 ≤ k by omega)
                have hrp : r < p := by omega
                have hc := hU.cell (i := r) (by rw [HUl.out]; omega)
                simp only [Int.toNat_natCast] at HST HG
                cases h3 : U.getD r false with
                | true =>
                  have HR : Hid _ := HBAD.out (HST.out (.inr (.inr h3)))
                  rw [h3] at hc
                  clear HST HG HBAD h3 hO
                  go_wp2
                  go_ret2
                  exact ⟨by rw [HR.out]; rfl, hwA⟩
                | false =>
                  have HR : Hid _ := HG.out (by rw [h3]; simp; omega)
                  rw [h3] at hc
                  have hrl : r < L.length := by rw [HL.out]; omega
                  have hy : L[r]? = some L[r] := List.getElem?_eq_getElem hrl
                  generalize L[r] = y at hy
                  obtain ⟨b', o', e, hb', hNy⟩ := (hLr.fr fq (by simpa using HB.out)) r y hy
                  injection e with e
                  injection e with e1 e2
                  subst e1 e2
                  have c0 := hNy.c0
                  have HCU : Hid ((U.set r true).count true = U.count true + 1) := count_up (by rw [HUl.out]; omega) h3
                  have hq5 : q + 1 ≤ 50000 := by
                    have h5 := List.count_le_length (a := true) (l := U.set r true)
                    rw [HCU.out, List.length_set, HUl.out] at h5
                    have := hcnt.out
                    omega
                  have HKY : Hid (kd L (r : Int) = y.kind) := kd_at hy
                  have hbg : b ≠ w.heap.size := by have := HB.out; omega
                  have hS := hU.set r true
                  have hfz := hU.fz r
                  have hb1 := World.block_lt_of_cell? wr _ c0
                  simp only at hb1
                  have own1 : (wr.setCell ⟨w.heap.size, r, none⟩ (.bool true)).ownsRow A.heap.size 3 1 (.slice av q cv) q (((ks.take q).map (kd L)).map (Value.int .i64)) := by
                    have f : Fr [w.heap.size] wr (wr.setCell ⟨w.heap.size, r, none⟩ (.bool true)) := (Fr.refl _ _).setCell (p := ⟨w.heap.size, r, none⟩) (.inl (by simp)) _
                    have := hO.fr f (by have := HGA.out; simpa using this)
                    unfold OR at this
                    rw [hKn] at this
                    exact this
                  have gq := fq.setCell (p := ⟨w.heap.size, r, none⟩) (.inl (by simp)) (.bool true)
                  have szS : (wr.setCell ⟨w.heap.size, r, none⟩ (.bool true)).heap.size = wr.heap.size := by simp
                  clear HST HG HBAD h3 hO hNy hy
                  generalize hxs' : ((ks.take q).map (kd L)).map (Value.int .i64) = xs at *
                  have hxs : Hid (((ks.take q).map (kd L)).map (Value.int .i64) = xs) := hxs'
                  clear hxs'
                  go_wp2_with (at_builtin; refine wpList_append_own _ rfl _ _ 26 rfl A.heap.size 3 i3 (.int .i64 0) 1 8 Tryz.underlying26 hi hz hz1 hby rfl (by decide) (.slice av q cv) q xs rfl ?own ⟨wr.heap.size, 0, none⟩ 1 1 [.int .i64 y.kind] rfl rfl ?news (by simp [Value.oneCell']) (by unfold maxLen; omega) (by omega) ?base ?_)
                  case own => exact own1.alloc _
                  case base => have := HSQ.out; omega
                  intro v1 w3 hown1 hgrow _
                  have hrow : ∀ k, (Value.slice av q cv).ownBlock = some k → A.heap.size ≤ k := fun k e => (hown.lt k e).1
                  have F3 : Fr [w.heap.size] A w3 := (gq.alloc _).grown hgrow (fun k e => .inr (hrow k e))
                  have hT3 : TB w3 w.heap.size (U.set r true) := by
                    refine ((hS.fr ((Fr.refl [] _).alloc _) (by simp)).fr (Fr.ofGrown hgrow) ?_)
                    intro hm
                    have := hrow _ (by simpa using hm)
                    have := HGA.out
                    omega
                  have HOR : Hid (OR w3 A.heap.size v1 ((ks.take (q + 1)).map (kd L))) := by
                    unfold Hid OR
                    rw [HTK.out, HKY.out, List.map_append, hxs.out, List.length_append, hKn]
                    exact hown1
                  have HCN : Hid (q + 1 ≤ (U.set r true).count true) := by unfold Hid; rw [HCU.out]; have := hcnt.out; omega
                  clear hown1 hgrow hown own1 gq hS hrow hc c0 hcell
                  go_wp2
                  go_roundw
                  case rel => exact ⟨q + 1, U.set r true, hql, by go_num, F3, HOR.out, hT3, by rw [List.length_set]; exact HUl.out, HR, HCN⟩
                  case measure => simp [intOf]; omega
          · have hqe : q = ks.length := by omega
            have HTA : Hid (takeL p ks T = some U) := by
              unfold Hid
              rw [← hta.out, List.drop_of_length_le (by omega)]
              rfl
            have hKe : (ks.take q).map (kd L) = ks.map (kd L) := by rw [List.take_of_length_le (by omega)]
            rw [hKe] at hO
            have hb2 : wr.heap[N]? = some (.cells #[.int .i64 kind, .string text, .slice xa ks.length xc, .int .i64 pl] 55) := (fq.block N (by have := HS1.out; omega) (by have := HNG.out; simp; omega)).trans B1
            have d0 : wr.cell? ⟨N, 0, none⟩ = some (.int .i64 kind) := by simp [World.cell?, hb2]
            have d1 : wr.cell? ⟨N, 1, none⟩ = some (.string text) := by simp [World.cell?, hb2]
            have d2 : wr.cell? ⟨N, 2, none⟩ = some (.slice xa ks.length xc) := by simp [World.cell?, hb2]
            have d3 : wr.cell? ⟨N, 3, none⟩ = some (.int .i64 pl) := by simp [World.cell?, hb2]
            have HBAD : Hid (∀ er, nodeE L p ⟨kind, text, xa, xc, ks, pl⟩ T = .error er → checkL L = (p, er)) := fun er h => check_err HS.out (nodes_err he.out HX.out h)
            have HGOOD : Hid (nodeE L p ⟨kind, text, xa, xc, ks, pl⟩ T = .ok U → nodesL L (p + 1) = .ok U) := fun h => nodes_ok he.out HX.out h
            clear hta he HX hown
            by_cases h1 : pl < 0 ∨ kind < 1 ∨ 30 < kind
            · have HR : Hid _ := HBAD.out 50 (node_odd h1)
              clear HBAD HGOOD hO hLr
              rcases h1 with h1 | h1 | h1
              · go_wp2
                go_ret2
                exact ⟨by rw [HR.out]; rfl, hwA⟩
              · by_cases h2 : pl < 0
                · go_wp2
                  go_ret2
                  exact ⟨by rw [HR.out]; rfl, hwA⟩
                · go_wp2
                  go_ret2
                  exact ⟨by rw [HR.out]; rfl, hwA⟩
              · by_cases h2 : pl < 0
                · go_wp2
                  go_ret2
                  exact ⟨by rw [HR.out]; rfl, hwA⟩
                · go_wp2
                  go_ret2
                  exact ⟨by rw [HR.out]; rfl, hwA⟩
            · have hk : 1 ≤ kind ∧ kind ≤ 30 := by omega
              have hpl : ¬ pl < 0 := by omega
              obtain ⟨t, ls, hw⟩ := want_some hk
              have HN : Hid _ := node_rest (L := L) (n := p) (x := ⟨kind, text, xa, xc, ks, pl⟩) (T := T) hw hpl HTA.out
              have CT := fun w' => rtext_any ⟨kind, text, xa, xc, ks, pl⟩ w' htx t ls hw
              clear hw h1 HTA
              simp only at HN CT
              have CS := fun w' (f : Fr [] wr w') => shape_any w'.heap.size w' (ks.map (kd L)) av q cv kind hk (by simp; omega) (by unfold maxLen; omega) HCV.out (by
                have h9 : OR w' A.heap.size (.slice av (ks.map (kd L)).length cv) (ks.map (kd L)) := by
                  have := hO.fr f (by simp)
                  rw [hqe] at this
                  rw [List.length_map]
                  exact this
                exact h9.kat)
              clear hO hb2 hqe hKe hKn
              generalize textL t text = rt at *
              generalize shapeL kind (ks.map (kd L)) = rs at *
              cases rt with
              | false =>
                have HR : Hid (checkL L = (p, 52)) := HBAD.out 52 (by rw [HN.out]; rfl)
                clear HBAD HGOOD CS hLr
                go_wp2_with (go_at_call 50; refine (CT _).mono ?_; rintro e w' ⟨rfl, f2⟩)
                go_ret2
                exact ⟨by rw [HR.out]; rfl, hwA.trans f2⟩
              | true =>
                cases rs with
                | false =>
                  have HR : Hid (checkL L = (p, 53)) := HBAD.out 53 (by rw [HN.out]; rfl)
                  clear HBAD HGOOD hLr
                  go_wp2_with fail
                  refine (CT _).mono ?_
                  rintro e w' ⟨rfl, f2⟩
                  have e0 := f2.cell1 d0 (by simp)
                  have CS := CS w' f2
                  clear d0 d1 d2 d3 CT
                  go_wp2_with (go_at_call 51; refine CS.mono ?_; rintro e w'' ⟨rfl, rfl⟩)
                  go_ret2
                  exact ⟨by rw [HR.out]; rfl, hwA.trans f2⟩
                | true =>
                  have HR : Hid (nodesL L (p + 1) = .ok U) := HGOOD.out (by rw [HN.out]; rfl)
                  clear HBAD HGOOD hLr
                  go_wp2_with fail
                  refine (CT _).mono ?_
                  rintro e w' ⟨rfl, f2⟩
                  have e0 := f2.cell1 d0 (by simp)
                  have hU2 := hU.fr f2 (by simp)
                  have CS := CS w' f2
                  clear d0 d1 d2 d3 CT
                  go_wp2_with (go_at_call 51; refine CS.mono ?_; rintro e w'' ⟨rfl, rfl⟩)
                  go_roundw
                  case rel => exact ⟨p + 1, hlt, by go_num, hwA.trans f2, U, hU2, HUl.out, HR⟩
                  case measure => simp [intOf]; omega
      · have hpe : p = len := by omega
        subst hpe
        have HN : Hid (nodesL L L.length = .ok T) := by unfold Hid; rw [HL.out]; exact he.out
        clear he
        by_cases hzz : p = 0
        · subst hzz
          have HR : Hid (checkL L = (0, 50)) := check_empty HL.out
          go_wp2
          go_ret2
          exact ⟨by rw [HR.out]; rfl, fw⟩
        · have HZ : Hid (L.length ≠ 0) := by unfold Hid; rw [HL.out]; exact hzz
          have hp1 : (p : Int) - 1 = ((p - 1 : Nat) : Int) := by omega
          have HBAD : Hid (∀ n : Nat, n < p → (n = p - 1 ∧ kd L (n : Int) ≠ 1) ∨ (n ≠ p - 1 ∧ (kd L (n : Int) = 1 ∨ T.getD n false = false)) → checkL L = (p - 1, 50)) := fun n hn h => by
            have e := HL.out
            rw [← e]
            refine check_last HS.out HN.out HZ.out ?_
            rw [e]
            rcases h with ⟨h1, h2⟩ | ⟨h1, h2⟩
            · rw [h1] at h2; exact .inl h2
            · refine .inr (has0_of (i := n) (by omega) (by rw [HTl.out]; exact hn) ?_)
              rcases h2 with h2 | h2
              · cases hq : T.getD n false with
                | false => rfl
                | true => exact absurd h2 (prog_unused _ _ HN.out n hq)
              · exact h2
          have HKD : ∀ (n : Nat) (x : Nd), L[n]? = some x → Hid (kd L (n : Int) = x.kind) := fun n x h => kd_at h
          clear HTl hTl
          have HTl : Hid (T.length = p) := by unfold Hid; rw [nodes_length _ _ HN.out]; exact HL.out
          go_wp2
          go_loopw [91] (fun i wq => ∃ n : Nat, n ≤ p ∧ i = .int .i64 n ∧ Fr [] w wq ∧ TB wq w.heap.size T ∧ Hid (∀ j : Nat, j < n → (j = p - 1 → kd L (j : Int) = 1) ∧ (j ≠ p - 1 → T.getD j false = true))) (fun i _ => p - (intOf i).toNat)
          case atStart => exact ⟨0, Nat.zero_le _, rfl, fw, hT, fun j hj => by omega⟩
          case round =>
            obtain ⟨n, hn, rfl, fq, hTq, hok⟩ := hrel
            clear hT fw
            by_cases hlt2 : n < p
            · have hx : L[n]? = some (L[n]'(by rw [HL.out]; exact hlt2)) := List.getElem?_eq_getElem _
              generalize L[n]'(by rw [HL.out]; exact hlt2) = x at hx
              have HK := HKD n x hx
              obtain ⟨b, o, rfl, hb, hN⟩ := (hL.fr fq (by simp)) n x hx
              obtain ⟨q0, q1, q2, q3, _, _, _, _, _⟩ := hN
              have hc := hTq.cell (i := n) (by rw [HTl.out]; exact hlt2)
              have hgl := hTq.lt
              have f1 : ∀ o, Fr [] wr (wr.alloc o) := fun o => (Fr.refl _ _).alloc _
              have hbl := World.block_lt_of_cell? wr _ q0
              simp only at hbl
              have HB1 : Hid _ := HBAD.out n hlt2
              rw [HK.out] at HB1
              have HOK : Hid ((n = p - 1 → x.kind = 1) → (n ≠ p - 1 → T.getD n false = true) → ∀ j : Nat, j < n + 1 → (j = p - 1 → kd L (j : Int) = 1) ∧ (j ≠ p - 1 → T.getD j false = true)) := fun h1 h2 j hj => by
                by_cases e : j = n
                · subst e
                  exact ⟨fun h => by rw [HK.out]; exact h1 h, h2⟩
                · exact hok.out j (by omega)
              clear hx hok HK
              generalize hu : T.getD n false = u at *
              clear hu
              by_cases hlast : n = p - 1
              · have hl' : ((n : Int) == ((p - 1 : Nat) : Int)) = true := by simp; omega
                have HLA : Hid (n = p - 1) := hlast
                clear hlast
                by_cases hk : x.kind = 1
                · have HR : Hid _ := HOK.out (fun _ => hk) (fun h => absurd HLA.out h)
                  clear HOK HB1
                  cases u
                  all_goals
                    go_wp2
                    go_roundw
                    case rel => exact ⟨n + 1, hlt2, by go_num, fq.trans (f1 _), hTq.fr (f1 _) (by simp), HR⟩
                    case measure => simp [intOf]; omega
                · have hk' : (x.kind == 1) = false := by simp [hk]
                  have HR : Hid _ := HB1.out (.inl ⟨HLA.out, hk⟩)
                  clear HOK HB1 hk
                  go_wp2
                  go_ret2
                  exact ⟨by rw [HR.out]; rfl, fq.trans (f1 _)⟩
              · have hl' : ((n : Int) == ((p - 1 : Nat) : Int)) = false := by simp; omega
                have HLA : Hid (n ≠ p - 1) := hlast
                clear hlast
                by_cases hk : x.kind = 1
                · have HR : Hid _ := HB1.out (.inr ⟨HLA.out, .inl hk⟩)
                  clear HOK HB1
                  go_wp2
                  go_ret2
                  exact ⟨by rw [HR.out]; rfl, fq.trans (f1 _)⟩
                · have hk' : (x.kind == 1) = false := by simp [hk]
                  cases u with
                  | true =>
                    have HR : Hid _ := HOK.out (fun h => absurd h HLA.out) (fun _ => rfl)
                    clear HOK HB1 hk
                    go_wp2
                    go_roundw
                    case rel => exact ⟨n + 1, hlt2, by go_num, fq.trans (f1 _), hTq.fr (f1 _) (by simp), HR⟩
                    case measure => simp [intOf]; omega
                  | false =>
                    have HR : Hid _ := HB1.out (.inr ⟨HLA.out, .inr rfl⟩)
                    clear HOK HB1 hk
                    go_wp2
                    go_ret2
                    exact ⟨by rw [HR.out]; rfl, fq.trans (f1 _)⟩
            · have hne : n = p := by omega
              subst hne
              have HK1 : Hid (kd L ((L.length - 1 : Nat) : Int) = 1) := by
                unfold Hid
                rw [HL.out]
                exact (hok.out (n - 1) (by omega)).1 rfl
              have HH : Hid (has0 T (L.length - 1) = false) := by
                unfold Hid
                rw [HL.out]
                exact has0_not _ (by rw [HTl.out]; omega) (fun j hj => (hok.out j (by omega)).2 (by omega))
              have CD := rdeep_any B L wr a n cap hLL (hL.fr fq (by simp)) hm (by have := fq.size; have := HB.out; omega)
              have hdl : deepL L ≤ n := by have := deepL_le L; rw [HL.out] at this; exact this
              clear hok
              by_cases hd : 200 < deepL L
              · have HR : Hid (checkL L = (0, 51)) := check_deep HS.out HN.out HZ.out HK1.out HH.out hd
                generalize deepL L = DD at *
                go_wp2_with (go_at_call 36; refine CD.mono ?_; rintro e w' ⟨rfl, f2⟩)
                go_ret2
                exact ⟨by rw [HR.out]; rfl, fq.trans f2⟩
              · have HR : Hid (checkL L = (0, 0)) := check_ok HS.out HN.out HZ.out HK1.out HH.out hd
                generalize deepL L = DD at *
                go_wp2_with (go_at_call 36; refine CD.mono ?_; rintro e w' ⟨rfl, f2⟩)
                go_ret2
                exact ⟨by rw [HR.out]; rfl, fq.trans f2⟩
end Go.Proofs.YtnmfcaahdeddnaaGreatDoor.T5
namespace Go.Proofs.YtnmfcaahdeddnaaGreatDoor.T5
open Go.RowKit
set_option maxRecDepth 100000
set_option linter.unusedVariables false
set_option linter.unusedSimpArgs false

theorem nodes_in {L : List Nd} : ∀ (n : Nat) (T : List Bool), nodesL L n = .ok T → ∀ (i : Nat) (x : Nd), i < n → L[i]? = some x → ∀ k ∈ x.ks, 0 ≤ k ∧ k < i
  | 0, T, h, i, x, hi, hx, k, hk => by omega
  | n + 1, T, h, i, x, hi, hx, k, hk => by
    unfold nodesL at h
    split at h
    · cases h
    · rename_i T0 h0
      by_cases e : i = n
      · subst e
        rw [hx] at h
        simp only at h
        split at h
        · cases h
        · rename_i T1 h1
          unfold nodeE at h1
          split at h1
          · cases h1
          · split at h1
            · cases h1
            · split at h1
              · cases h1
              · rename_i ht2
                exact take_in _ _ _ ht2 k hk
      · exact nodes_in n T0 h0 i x (by omega) hx k hk

/-- A list that Check takes. -/
theorem check_zero {L : List Nd} {p : Nat} (h : checkL L = (p, 0)) : ∃ T, nodesL L L.length = .ok T ∧ L.length ≠ 0 ∧ L.length ≤ 50000 ∧ kd L ((L.length - 1 : Nat) : Int) = 1 ∧ has0 T (L.length - 1) = false := by
  by_cases h0 : 50000 < L.length
  · rw [check_long h0] at h; cases h
  · cases hn : nodesL L L.length with
    | error e =>
      rw [check_err h0 hn] at h
      exfalso
      subst h
      have : ∀ n, nodesL L n ≠ .error (p, 0) := by
        intro n
        induction n with
        | zero => intro e; cases e
        | succ n ih =>
          intro e
          unfold nodesL at e
          split at e
          · rename_i e2 he2
            cases e
            exact ih he2
          · split at e
            · cases e
            · split at e
              · rename_i er he
                cases e
                have := node_err he
                omega
              · cases e
      exact this _ hn
    | ok T =>
      by_cases hz : L.length = 0
      · rw [check_empty hz] at h; cases h
      · by_cases hb : kd L ((L.length - 1 : Nat) : Int) ≠ 1 ∨ has0 T (L.length - 1) = true
        · rw [check_last h0 hn hz hb] at h; cases h
        · refine ⟨T, rfl, hz, by omega, ?_, ?_⟩
          · exact Decidable.byContradiction fun hh => hb (.inl hh)
          · cases hh : has0 T (L.length - 1) with
            | false => rfl
            | true => exact absurd (.inr hh) hb
end Go.Proofs.YtnmfcaahdeddnaaGreatDoor.T5
namespace Go.Proofs.YtnmfcaahdeddnaaGreatDoor.T5
open Go.RowKit
set_option linter.unusedVariables false
set_option linter.unusedSimpArgs false

/-- A node's kids. -/
def kN (L : List Nd) (n : Nat) : List Nat := match L[n]? with | some x => x.ks.map Int.toNat | none => []
/-- Kids stand ahead. -/
def Ahead (L : List Nd) : Prop := ∀ (i : Nat) (x : Nd), L[i]? = some x → ∀ k ∈ x.ks, 0 ≤ k ∧ k < i
theorem Ahead.kid {L : List Nd} (h : Ahead L) {n k : Nat} (hk : k ∈ kN L n) : k < n := by
  unfold kN at hk
  cases hx : L[n]? with
  | none => rw [hx] at hk; simp at hk
  | some x =>
    rw [hx] at hk
    simp only [List.mem_map] at hk
    obtain ⟨q, hq, rfl⟩ := hk
    have := h n x hx q hq
    omega
def walkL (L : List Nd) : Nat → Nat → Nat → List (Nat × Nat)
  | 0, _, _ => []
  | f + 1, n, d => (n, d) :: (kN L n).flatMap (fun k => walkL L f k (d + 1))
def wk (L : List Nd) (n d : Nat) : List (Nat × Nat) := walkL L (n + 1) n d

theorem flat_congr {α β : Type} {l : List α} {f g : α → List β} (h : ∀ x ∈ l, f x = g x) : l.flatMap f = l.flatMap g := by
  induction l with
  | nil => rfl
  | cons a r ih => rw [List.flatMap_cons, List.flatMap_cons, h a (by simp), ih (fun x hx => h x (by simp [hx]))]
theorem walk_fuel {L : List Nd} (h : Ahead L) : ∀ (f f' n d : Nat), n < f → n < f' → walkL L f n d = walkL L f' n d := by
  intro f
  induction f with
  | zero => intro f' n d h1; omega
  | succ f ih =>
    intro f' n d h1 h2
    cases f' with
    | zero => omega
    | succ f' =>
      simp only [walkL]
      congr 1
      exact flat_congr (fun k hk => by have := h.kid hk; exact ih f' k (d + 1) (by omega) (by omega))
theorem wk_eq {L : List Nd} (h : Ahead L) (n d : Nat) : wk L n d = (n, d) :: (kN L n).flatMap (fun k => wk L k (d + 1)) := by
  unfold wk
  rw [walkL]
  congr 1
  exact flat_congr (fun k hk => by have := h.kid hk; exact walk_fuel h _ _ k (d + 1) (by omega) (by omega))
theorem wk_pos {L : List Nd} (h : Ahead L) (n d : Nat) : 1 ≤ (wk L n d).length := by rw [wk_eq h]; simp

/-- What waits, the next one last. -/
def rem (L : List Nd) (S : List (Nat × Nat)) : List (Nat × Nat) := S.reverse.flatMap (fun t => wk L t.1 t.2)
theorem rem_pop {L : List Nd} (h : Ahead L) (S : List (Nat × Nat)) (t : Nat × Nat) : rem L (S ++ [t]) = t :: rem L (S ++ (kN L t.1).reverse.map (fun k => (k, t.2 + 1))) := by
  unfold rem
  simp only [List.reverse_append, List.reverse_cons, List.reverse_nil, List.nil_append, List.flatMap_append, List.singleton_append, List.flatMap_cons, List.flatMap_nil, List.append_nil]
  rw [wk_eq h]
  simp only [List.cons_append, ← List.map_reverse, List.reverse_reverse]
  congr 2
  rw [List.flatMap_map]
theorem rem_len {L : List Nd} (h : Ahead L) (S : List (Nat × Nat)) : S.length ≤ (rem L S).length := by
  unfold rem
  rw [← List.length_reverse]
  generalize S.reverse = R
  induction R with
  | nil => simp
  | cons t r ih =>
    have := wk_pos h t.1 t.2
    simp only [List.flatMap_cons, List.length_append, List.length_cons]
    omega

/-! Each just once. -/
def sumN : Nat → (Nat → Nat) → Nat
  | 0, _ => 0
  | n + 1, f => sumN n f + f n
theorem sumN_congr {n : Nat} {f g : Nat → Nat} (h : ∀ i, i < n → f i = g i) : sumN n f = sumN n g := by
  induction n with
  | zero => rfl
  | succ n ih => simp only [sumN]; rw [ih (fun i hi => h i (by omega)), h n (by omega)]
theorem sumN_add (n : Nat) (f g : Nat → Nat) : sumN n (fun i => f i + g i) = sumN n f + sumN n g := by
  induction n with
  | zero => rfl
  | succ n ih => simp only [sumN, ih]; omega
theorem sumN_zero {n : Nat} {f : Nat → Nat} (h : ∀ i, i < n → f i = 0) : sumN n f = 0 := by
  induction n with
  | zero => rfl
  | succ n ih => simp only [sumN]; rw [ih (fun i hi => h i (by omega)), h n (by omega)]
theorem sumN_one (n a : Nat) (g : Nat → Nat) (h : a < n) : sumN n (fun p => if a = p then g p else 0) = g a := by
  induction n with
  | zero => omega
  | succ n ih =>
    simp only [sumN]
    by_cases e : a = n
    · subst e
      rw [sumN_zero (fun i hi => by rw [if_neg (by omega)]), if_pos rfl]; omega
    · rw [ih (by omega), if_neg e]; omega
theorem sumN_ones (n : Nat) : sumN n (fun _ => 1) = n := by
  induction n with
  | zero => rfl
  | succ n ih => simp only [sumN, ih]
theorem sum_count {n : Nat} (g : Nat → Nat) : ∀ (W : List Nat), (∀ p ∈ W, p < n) → (W.map g).sum = sumN n (fun p => W.count p * g p)
  | [], _ => by simp [sumN_zero]
  | a :: W, h => by
    rw [List.map_cons, List.sum_cons, sum_count g W (fun p hp => h p (by simp [hp])), ← sumN_one n a g (h a (by simp)), ← sumN_add]
    refine sumN_congr fun i hi => ?_
    rw [List.count_cons]
    by_cases e : a = i
    · subst e; simp [Nat.add_mul]; omega
    · simp [e]

def wn (L : List Nd) (n d : Nat) : List Nat := (wk L n d).map Prod.fst
theorem wn_eq {L : List Nd} (h : Ahead L) (n d : Nat) : wn L n d = n :: (kN L n).flatMap (fun k => wn L k (d + 1)) := by
  unfold wn
  rw [wk_eq h, List.map_cons, List.map_flatMap]
def Sg (L : List Nd) (m : Nat) (W : List Nat) : Nat := (W.map (fun p => (kN L p).count m)).sum
theorem count_flat {L : List Nd} (m : Nat) (g : Nat → List Nat) : ∀ (ks : List Nat), (∀ k ∈ ks, (g k).count m = (if k = m then 1 else 0) + Sg L m (g k)) → (ks.flatMap g).count m = ks.count m + Sg L m (ks.flatMap g)
  | [], _ => by simp [Sg]
  | k :: r, h => by
    rw [List.flatMap_cons, List.count_append, h k (by simp), count_flat m g r (fun q hq => h q (by simp [hq])), List.count_cons]
    unfold Sg
    rw [List.map_append, List.sum_append]
    simp only [beq_iff_eq]
    omega
theorem count_walk {L : List Nd} (h : Ahead L) (m : Nat) : ∀ (n d : Nat), (wn L n d).count m = (if n = m then 1 else 0) + Sg L m (wn L n d) := by
  intro n
  induction n using Nat.strongRecOn with
  | ind n ih =>
    intro d
    rw [wn_eq h, List.count_cons, count_flat m (fun k => wn L k (d + 1)) (kN L n) (fun k hk => ih k (h.kid hk) (d + 1))]
    unfold Sg
    rw [List.map_cons, List.sum_cons]
    simp only [beq_iff_eq]
    omega
theorem wn_le {L : List Nd} (h : Ahead L) : ∀ (n d : Nat), ∀ p ∈ wn L n d, p ≤ n := by
  intro n
  induction n using Nat.strongRecOn with
  | ind n ih =>
    intro d p hp
    rw [wn_eq h] at hp
    simp only [List.mem_cons, List.mem_flatMap] at hp
    rcases hp with rfl | ⟨k, hk, hp⟩
    · omega
    · have := ih k (h.kid hk) (d + 1) p hp
      have := h.kid hk
      omega
theorem wk_sum {L : List Nd} (h : Ahead L) : ∀ (n d : Nat), ∀ t ∈ wk L n d, t.1 + t.2 ≤ n + d := by
  intro n
  induction n using Nat.strongRecOn with
  | ind n ih =>
    intro d t ht
    rw [wk_eq h] at ht
    simp only [List.mem_cons, List.mem_flatMap] at ht
    rcases ht with rfl | ⟨k, hk, ht⟩
    · simp
    · have := ih k (h.kid hk) (d + 1) t ht
      have := h.kid hk
      omega

def b2n (b : Bool) : Nat := if b then 1 else 0
theorem take_count {n : Nat} : ∀ (ks : List Int) (T T' : List Bool), takeL n ks T = some T' → n ≤ T.length → ∀ m, (ks.map Int.toNat).count m + b2n (T.getD m false) = b2n (T'.getD m false)
  | [], T, T', h, _, m => by simp [takeL] at h; subst h; simp
  | k :: r, T, T', h, hn, m => by
    simp only [takeL] at h
    split at h
    · cases h
    · rename_i hk
      have ih := take_count r _ _ h (by simpa using hn) m
      rw [← ih, List.map_cons, List.count_cons]
      have hT : T.getD k.toNat false = false := by
        cases hh : T.getD k.toNat false with
        | false => rfl
        | true => exact absurd (.inr (.inr hh)) hk
      have hlt : k.toNat < T.length := by
        have : ¬ (k < 0) := fun e => hk (.inl e)
        have : ¬ ((n : Int) ≤ k) := fun e => hk (.inr (.inl e))
        omega
      by_cases e : k.toNat = m
      · subst e
        have : (T.set k.toNat true).getD k.toNat false = true := by simp [List.getD_eq_getElem?_getD, List.getElem?_set_self hlt]
        rw [this, hT]
        simp [b2n]
      · have : (T.set k.toNat true).getD m false = T.getD m false := by simp [List.getD_eq_getElem?_getD, List.getElem?_set_ne e]
        rw [this]
        simp [e]
theorem nodes_count {L : List Nd} : ∀ (n : Nat) (T : List Bool), nodesL L n = .ok T → n ≤ L.length → ∀ m, sumN n (fun i => (kN L i).count m) = b2n (T.getD m false)
  | 0, T, h, _, m => by
    simp only [nodesL, Except.ok.injEq] at h
    subst h
    simp only [sumN, b2n, List.getD_eq_getElem?_getD, List.getElem?_replicate]
    split <;> simp_all
  | n + 1, T, h, hn, m => by
    unfold nodesL at h
    split at h
    · cases h
    · rename_i T0 h0
      have ih := nodes_count n T0 h0 (by omega) m
      have hl := nodes_length n T0 h0
      have hx : L[n]? = some (L[n]'(by omega)) := List.getElem?_eq_getElem _
      generalize L[n]'(by omega) = x at hx
      rw [hx] at h
      simp only at h
      split at h
      · cases h
      · rename_i T1 h1
        cases h
        unfold nodeE at h1
        split at h1
        · cases h1
        · split at h1
          · cases h1
          · split at h1
            · cases h1
            · rename_i T2 ht2
              split at h1
              · cases h1
              · split at h1
                · cases h1
                · cases h1
                  have := take_count _ _ _ ht2 (by omega) m
                  simp only [sumN]
                  rw [ih, ← this]
                  unfold kN
                  rw [hx]
                  simp only
                  omega

theorem has0_get {T : List Bool} {n : Nat} (h : has0 T n = false) (hn : n ≤ T.length) {m : Nat} (hm : m < n) : T.getD m false = true := by
  unfold has0 at h
  cases hb : T.getD m false with
  | true => rfl
  | false =>
    have : false ∈ T.take n := by
      have hm' : m < T.length := by omega
      rw [List.getD_eq_getElem?_getD, List.getElem?_eq_getElem hm'] at hb
      have : (T.take n)[m]? = some false := by rw [List.getElem?_take_of_lt hm, List.getElem?_eq_getElem hm']; simpa using hb
      exact List.mem_of_getElem? this
    have := List.contains_iff_mem.2 this
    rw [this] at h
    cases h

/-- A tree: each of its nodes is told just once. -/
theorem tree_once {L : List Nd} {p : Nat} (hc : checkL L = (p, 0)) : Ahead L ∧ 0 < L.length ∧ L.length ≤ 50000 ∧ (∀ m, m < L.length → (wn L (L.length - 1) 0).count m = 1) ∧ (wk L (L.length - 1) 0).length = L.length := by
  obtain ⟨T, hn, hz, h5, _, h0⟩ := check_zero hc
  have hA : Ahead L := fun i x hx => nodes_in _ _ hn i x (List.getElem?_eq_some_iff.1 hx).1 hx
  have hl := nodes_length _ _ hn
  have hle : ∀ q ∈ wn L (L.length - 1) 0, q < L.length := fun q hq => by have := wn_le hA _ _ q hq; omega
  have one : ∀ j, ∀ m, m < L.length → L.length - 1 - m = j → (wn L (L.length - 1) 0).count m = 1 := by
    intro j
    induction j using Nat.strongRecOn with
    | ind j ih =>
      intro m hm hj
      rw [count_walk hA]
      unfold Sg
      rw [sum_count _ _ hle]
      have e1 : sumN L.length (fun q => (wn L (L.length - 1) 0).count q * (kN L q).count m) = sumN L.length (fun q => (kN L q).count m) := by
        refine sumN_congr fun q hq => ?_
        by_cases hqm : m < q
        · rw [ih (L.length - 1 - q) (by omega) q hq rfl, Nat.one_mul]
        · have : (kN L q).count m = 0 := List.count_eq_zero.2 (fun hmem => by have := hA.kid hmem; omega)
          rw [this, Nat.mul_zero]
      rw [e1, nodes_count _ _ hn (Nat.le_refl _)]
      by_cases e : L.length - 1 = m
      · rw [if_pos e]
        have := nodes_count _ _ hn (Nat.le_refl _) m
        rw [← this, sumN_zero (fun q hq => List.count_eq_zero.2 (fun hmem => by have := hA.kid hmem; omega))]
      · rw [if_neg e, has0_get h0 (by omega) (by omega)]
        rfl
  have one' : ∀ m, m < L.length → (wn L (L.length - 1) 0).count m = 1 := fun m hm => one _ m hm rfl
  refine ⟨hA, by omega, h5, one', ?_⟩
  have := sum_count (fun _ => 1) _ hle
  rw [List.map_const', List.sum_replicate_nat] at this
  have e : (wn L (L.length - 1) 0).length = L.length := by
    rw [show (wn L (L.length - 1) 0).length = (wn L (L.length - 1) 0).length * 1 from by omega, this, sumN_congr (g := fun _ => 1) (fun q hq => by rw [one' q hq]), sumN_ones]
  unfold wn at e
  simpa using e
end Go.Proofs.YtnmfcaahdeddnaaGreatDoor.T5
namespace Go.Proofs.YtnmfcaahdeddnaaGreatDoor.T5
open Go.RowKit
set_option maxRecDepth 100000
set_option linter.unusedVariables false
set_option linter.unusedSimpArgs false

/-- Nodes as cells. -/
def cellsN (x : Nd) : List Value := [.int .i64 x.kind, .string x.text, .slice x.a x.ks.length x.c, .int .i64 x.pl]
def flatN : List Nd → List Value
  | [] => []
  | x :: L => cellsN x ++ flatN L
theorem flatN_length : ∀ L : List Nd, (flatN L).length = L.length * 4
  | [] => rfl
  | x :: L => by simp [flatN, flatN_length L, cellsN]; omega
theorem flatN_at : ∀ (L : List Nd) (i j : Nat) (x : Nd), L[i]? = some x → j < 4 → (flatN L)[i * 4 + j]? = (cellsN x)[j]?
  | [], i, j, x, h, hj => by simp at h
  | y :: L, 0, j, x, h, hj => by
    simp at h; subst h
    rw [flatN, List.getElem?_append_left (by simp [cellsN]; omega)]
    simp
  | y :: L, i + 1, j, x, h, hj => by
    rw [flatN, List.getElem?_append_right (by simp [cellsN]; omega)]
    rw [show (i + 1) * 4 + j - (cellsN y).length = i * 4 + j by simp [cellsN]; omega]
    exact flatN_at L i j x (by simpa using h) hj
theorem flatN_set (j : Nat) (hj : j < 4) (u : Value) : ∀ (L : List Nd) (i : Nat) (x y : Nd), L[i]? = some x → (cellsN x).set j u = cellsN y → (flatN L).set (i * 4 + j) u = flatN (L.set i y)
  | [], i, x, y, h, e => by simp at h
  | z :: L, 0, x, y, h, e => by
    simp at h; subst h
    rw [flatN, List.set_append_left _ _ (by simp [cellsN]; omega)]
    simp [flatN, e]
  | z :: L, i + 1, x, y, h, e => by
    rw [flatN, List.set_append_right _ _ (by simp [cellsN]; omega)]
    rw [show (i + 1) * 4 + j - (cellsN z).length = i * 4 + j by simp [cellsN]; omega]
    rw [flatN_set j hj u L i x y (by simpa using h) e]
    rfl
theorem flatN_one : ∀ (L : List Nd), ∀ u ∈ flatN L, u.oneCell' = true
  | [], u, h => by simp [flatN] at h
  | x :: L, u, h => by
    simp only [flatN, List.mem_append] at h
    rcases h with h | h
    · simp only [cellsN, List.mem_cons, List.not_mem_nil, or_false] at h
      rcases h with rfl | rfl | rfl | rfl <;> rfl
    · exact flatN_one L u h
theorem flatN_lies {B : Nat} {w : World} {L : List Nd} {ad : Addr} (h : NAt B w (some ad) L) : ∀ j u, (flatN L)[j]? = some u → w.cell? (ad.add j) = some u := by
  intro j u hj
  have hlt : j < L.length * 4 := by have := (List.getElem?_eq_some_iff.1 hj).1; rw [flatN_length] at this; exact this
  have hi : j / 4 < L.length := by omega
  have hx : L[j / 4]? = some L[j / 4] := List.getElem?_eq_getElem hi
  generalize L[j / 4] = x at hx
  obtain ⟨b, o, e, hb, hN⟩ := h _ x hx
  injection e with e
  subst e
  have hm := flatN_at L (j / 4) (j % 4) x hx (by omega)
  rw [show j / 4 * 4 + j % 4 = j by omega, hj] at hm
  rw [Addr.add_lit]
  have hr : j % 4 = 0 ∨ j % 4 = 1 ∨ j % 4 = 2 ∨ j % 4 = 3 := by omega
  rcases hr with hr | hr | hr | hr
  · rw [hr] at hm
    have e2 : o + j = o + j / 4 * 4 := by omega
    rw [e2, hN.c0]; exact hm.symm
  · rw [hr] at hm
    have e2 : o + j = o + j / 4 * 4 + 1 := by omega
    rw [e2, hN.c1]; exact hm.symm
  · rw [hr] at hm
    have e2 : o + j = o + j / 4 * 4 + 2 := by omega
    rw [e2, hN.c2]; exact hm.symm
  · rw [hr] at hm
    have e2 : o + j = o + j / 4 * 4 + 3 := by omega
    rw [e2, hN.c3]; exact hm.symm

theorem info39 : (Tryz.prog.info? 55).map (fun i => (i.zero, i.size, i.bytes)) = some (some (.agg #[.int .i64 0, .string ⟨#[]⟩, .slice none 0 0, .int .i64 0]), 4, 56) := by kernel_rfl

theorem grown_none {w w' : World} (h : w.grownBy w' none) : Fr [] w w' := Fr.grown (Fr.refl _ _) h (fun k e => by cases e)

/-- Nodes behind nothing. -/
theorem app_nodes {B : Nat} (w : World) (L : List Nd) (a : Option Addr) (len cap : Nat) (hlen : L.length = len) (hL : NAt B w a L) (hcap : a = none → cap = 0) (hm : len * 56 ≤ 140737488355328) :
    ∃ v' w', (Builtin.append_ #[23, 23] 23 #[.slice none 0 0, .slice a len cap]).run Tryz.prog w = .ok v' w' ∧ w'.ownsRow w.heap.size 55 4 v' len (flatN L) ∧ Fr [] w w' := by
  obtain ⟨i, hi, hz, hs, hb⟩ := info_parts info39
  cases a with
  | none =>
    have : L = [] := by
      cases L with
      | nil => rfl
      | cons x r => obtain ⟨b, o, e, _⟩ := hL 0 x rfl; cases e
    subst this
    simp at hlen
    subst hlen
    have := run_append_owned_none (P := Tryz.prog) w w.heap.size 23 23 55 i 4 Tryz.underlying23 hi (.slice none 0 0) 0 [] (World.ownsRow_nil _ _ _ _)
    have hc := hcap rfl
    subst hc
    exact ⟨_, _, this, World.ownsRow_nil _ _ _ _, Fr.refl _ _⟩
  | some ad =>
    obtain ⟨v', w', h1, h2, h3, _⟩ := run_append_own (P := Tryz.prog) w w.heap.size 23 23 55 i _ 4 56 Tryz.underlying23 hi hz hs hb rfl (by decide) (.slice none 0 0) 0 [] (World.ownsRow_nil _ _ _ _) ad len cap (flatN L) (by rw [flatN_length, hlen]) (flatN_lies hL) (flatN_one L) (by unfold maxLen; omega) (by omega) (Nat.le_refl _)
    refine ⟨v', w', h1, by simpa using h2, grown_none h3⟩
/-- Kids behind nothing. -/
theorem app_ints {B : Nat} (w : World) (ks : List Int) (a : Option Addr) (m c : Nat) (hl : ks.length = m) (hK : KAt B w a ks) (hcap : a = none → c = 0) (hm : m * 8 ≤ 140737488355328) :
    ∃ v' w', (Builtin.append_ #[26, 26] 26 #[.slice none 0 0, .slice a m c]).run Tryz.prog w = .ok v' w' ∧ OR w' w.heap.size v' ks ∧ Fr [] w w' := by
  obtain ⟨i, hi, hz, hs, hb⟩ := info_parts info3
  cases a with
  | none =>
    have : ks = [] := by
      cases ks with
      | nil => rfl
      | cons x r => obtain ⟨b, o, e, _⟩ := hK 0 x rfl; cases e
    subst this
    simp at hl
    subst hl
    have := run_append_owned_none (P := Tryz.prog) w w.heap.size 26 26 3 i 1 Tryz.underlying26 hi (.slice none 0 0) 0 [] (World.ownsRow_nil _ _ _ _)
    have hc := hcap rfl
    subst hc
    exact ⟨_, _, this, OR.nil _ _, Fr.refl _ _⟩
  | some ad =>
    obtain ⟨v', w', h1, h2, h3, _⟩ := run_append_own (P := Tryz.prog) w w.heap.size 26 26 3 i _ 1 8 Tryz.underlying26 hi hz hs hb rfl (by decide) (.slice none 0 0) 0 [] (World.ownsRow_nil _ _ _ _) ad m c (ks.map (Value.int .i64)) (by simp [hl]) (fun j u hj => by
      simp only [List.getElem?_map, Option.map_eq_some_iff] at hj
      obtain ⟨k, hk, rfl⟩ := hj
      obtain ⟨b, o, e, _, hc⟩ := hK j k hk
      injection e with e
      subst e
      rw [Addr.add_lit]; exact hc) (fun u hu => by
      simp only [List.mem_map] at hu
      obtain ⟨k, _, rfl⟩ := hu
      rfl) (by unfold maxLen; omega) (by omega) (Nat.le_refl _)
    refine ⟨v', w', h1, ?_, grown_none h3⟩
    unfold OR
    rw [hl]
    simpa using h2

/-- Kids in a row that isn't g's. -/
def KN (g : Nat) (w : World) (a : Option Addr) (ks : List Int) : Prop := ∀ (j : Nat) (k : Int), ks[j]? = some k → ∃ b o, a = some ⟨b, o, none⟩ ∧ b ≠ g ∧ b < w.heap.size ∧ w.cell? ⟨b, o + j, none⟩ = some (.int .i64 k)
theorem KN.fr {g : Nat} {w w' : World} {a : Option Addr} {ks : List Int} {S : List Nat} (h : KN g w a ks) (f : Fr S w w') (hS : ∀ k, k ∈ S → k = g) : KN g w' a ks := fun j k hk => by
  obtain ⟨b, o, e, hb, hl, hc⟩ := h j k hk
  exact ⟨b, o, e, hb, Nat.lt_of_lt_of_le hl f.size, f.cell1 hc (fun hm => hb (hS _ hm))⟩
theorem KN.kat {g : Nat} {w : World} {a : Option Addr} {ks : List Int} (h : KN g w a ks) : KAt w.heap.size w a ks := fun j k hk => by
  obtain ⟨b, o, e, hb, hl, hc⟩ := h j k hk
  exact ⟨b, o, e, hl, hc⟩

/-- A list in new memory. -/
structure TW (w : World) (base g len c : Nat) (L M : List Nd) : Prop where
  own : w.ownsRow base 55 4 (.slice (some ⟨g, 0, none⟩) len c) len (flatN M)
  len : M.length = len
  eq : ∀ (i : Nat) (x y : Nd), L[i]? = some x → M[i]? = some y → y.kind = x.kind ∧ y.text = x.text ∧ y.ks = x.ks
  ok : ∀ (i : Nat) (y : Nd), M[i]? = some y → KN g w y.a y.ks ∧ y.text.size ≤ maxLen ∧ y.ks.length ≤ maxLen ∧ y.ks.length ≤ y.c ∧ (y.a = none → y.c = 0)

theorem TW.cell {w : World} {base g len c : Nat} {L M : List Nd} (h : TW w base g len c L M) {i j : Nat} {y : Nd} (hy : M[i]? = some y) (hj : j < 4) : w.cell? ⟨g, i * 4 + j, none⟩ = (cellsN y)[j]? := by
  have hi := (List.getElem?_eq_some_iff.1 hy).1
  rw [h.own.cellAt (i * 4 + j) (by have := h.len; omega)]
  exact flatN_at M i j y hy hj
theorem TW.nat {w : World} {base g len c : Nat} {L M : List Nd} (h : TW w base g len c L M) : NAt w.heap.size w (some ⟨g, 0, none⟩) M := fun i y hy => by
  obtain ⟨k, t, l, cc, n⟩ := h.ok i y hy
  have c0 := h.cell hy (show 0 < 4 by omega)
  have c1 := h.cell hy (show 1 < 4 by omega)
  have c2 := h.cell hy (show 2 < 4 by omega)
  have c3 := h.cell hy (show 3 < 4 by omega)
  refine ⟨g, 0, rfl, World.block_lt_of_cell? w _ c0, ?_⟩
  rw [Nat.zero_add]
  exact ⟨c0, c1, c2, c3, k.kat, t, l, cc, n⟩
theorem TW.fr {w w' : World} {base g len c : Nat} {L M : List Nd} (h : TW w base g len c L M) (f : Fr [] w w') : TW w' base g len c L M := by
  refine ⟨?_, h.len, h.eq, fun i y hy => ?_⟩
  · obtain ⟨h1, h2⟩ := h.own
    refine ⟨h1, ?_⟩
    rcases h2 with h2 | ⟨g', cap, cur, e, hb, hg, r⟩
    · exact .inl h2
    · exact .inr ⟨g', cap, cur, e, hb, (f.block g' (Array.getElem?_eq_some_iff.1 hg).1 (by simp)).trans hg, r⟩
  · obtain ⟨k, r⟩ := h.ok i y hy
    exact ⟨k.fr f (by simp), r⟩
theorem TW.put {w : World} {base g len c : Nat} {L M : List Nd} (h : TW w base g len c L M) {i j : Nat} {y y' : Nd} (hy : M[i]? = some y) (hj : j < 4) (u : Value) (e : (cellsN y).set j u = cellsN y') (e1 : y'.kind = y.kind ∧ y'.text = y.text ∧ y'.ks = y.ks) (ok : KN g w y'.a y'.ks ∧ y'.text.size ≤ maxLen ∧ y'.ks.length ≤ maxLen ∧ y'.ks.length ≤ y'.c ∧ (y'.a = none → y'.c = 0)) : TW (w.setCell ⟨g, i * 4 + j, none⟩ u) base g len c L (M.set i y') := by
  have f : Fr [g] w (w.setCell ⟨g, i * 4 + j, none⟩ u) := (Fr.refl _ _).setCell (p := ⟨g, i * 4 + j, none⟩) (.inl (by simp)) _
  have hi := (List.getElem?_eq_some_iff.1 hy).1
  refine ⟨?_, by rw [List.length_set]; exact h.len, fun k x z hx hz => ?_, fun k z hz => ?_⟩
  · have := h.own.stored (i * 4 + j) u
    rw [flatN_set j hj u M i y y' hy e] at this
    exact this.1
  · by_cases ek : k = i
    · subst ek
      rw [List.getElem?_set_self hi] at hz
      injection hz with hz
      subst hz
      obtain ⟨a1, a2, a3⟩ := h.eq k x y hx hy
      exact ⟨e1.1.trans a1, e1.2.1.trans a2, e1.2.2.trans a3⟩
    · rw [List.getElem?_set_ne (fun e => ek e.symm)] at hz
      exact h.eq k x z hx hz
  · by_cases ek : k = i
    · subst ek
      rw [List.getElem?_set_self hi] at hz
      injection hz with hz
      subst hz
      exact ⟨ok.1.fr f (by simp), ok.2⟩
    · rw [List.getElem?_set_ne (fun e => ek e.symm)] at hz
      obtain ⟨k1, r⟩ := h.ok k z hz
      exact ⟨k1.fr f (by simp), r⟩

theorem wpList_append_run {P : Program} (w : World) {ops : Array Oper} {rest : List Oper} {o : Oper} {a : Act} {Q : Exit → Act → World → Prop} (hgd : o.guard = none) (s x : Operand) (t : TypeId)
    (ho : o.op = .call { callee := .builtin .append, args := #[s, x], argTypes := #[t, t] }) (v1 v2 : Value) (hs : a.eval s = v1) (hx : a.eval x = v2) {v' : Value} {w' : World}
    (hr : (Builtin.append_ #[t, t] o.type #[v1, v2]).run P w = .ok v' w') (h : wpList P ops Q rest (a.put o.dst v') w') : wpList P ops Q (o :: rest) a w := by
  refine wpList_plain hgd fun K hK => ?_
  unfold Oper.wp execOp
  simp only [ho, resolve, invoke, builtin, Sem.run_bind, Sem.run_pure, Result.andThen_ok, List.map_toArray, List.map_cons, List.map_nil, hs, hx, hr]
  exact hK _ _ h

set_option maxRecDepth 100000 in
set_option maxHeartbeats 1000000 in
theorem twin_any (B : Nat) (L : List Nd) (w : World) (a : Option Addr) (len cap : Nat) (hlen : L.length = len) (hL : NAt B w a L) (hcap : a = none → cap = 0) (hB : B ≤ w.heap.size) (hm : len * 56 ≤ 140737488355328) (hks : ∀ (i : Nat) (x : Nd), L[i]? = some x → x.ks.length * 8 ≤ 140737488355328) :
    Calls Tryz.prog 28 #[.slice a len cap] w fun e w' => (∃ a' c', e = .returned (.slice a' len c') ∧ (0 < len → ∃ g M, a' = some ⟨g, 0, none⟩ ∧ w.heap.size ≤ g ∧ TW w' w.heap.size g len c' L M)) ∧ Fr [] w w' := by
  obtain ⟨v1, w1, hrun, hown, f1⟩ := app_nodes w L a len cap hlen hL hcap hm
  have HL : Hid (L.length = len) := hlen
  have HM : Hid _ := hm
  clear hm
  by_cases h0 : len = 0
  · subst h0
    have hv : ∃ a' c', v1 = .slice a' 0 c' := by
      rcases hown.2 with ⟨rfl, _⟩ | ⟨g, c, cur, rfl, _⟩
      · exact ⟨_, _, rfl⟩
      · exact ⟨_, _, rfl⟩
    obtain ⟨a', c', rfl⟩ := hv
    clear hown
    have HRUN : Hid _ := hrun
    clear hrun
    go_enter Tryz.func28, Tryz.ntmps28
    go_wp2_with (at_builtin; refine wpList_append_run _ rfl _ _ 23 rfl _ _ rfl rfl HRUN.out ?_)
    go_wp2
    go_loopw [9] (fun i wr => i = .int .i64 0 ∧ wr = w1) (fun i _ => 0)
    case atStart => exact ⟨rfl, rfl⟩
    case round =>
      obtain ⟨rfl, rfl⟩ := hrel
      go_wp2
      go_ret
      exact ⟨⟨_, _, rfl, fun h => by omega⟩, f1⟩
  · rcases hown.2 with ⟨_, hh⟩ | ⟨g, c, cur, rfl, hg, hgc, _⟩
    · exact absurd hh h0
    · have T0 : TW w1 w.heap.size g len c L L := ⟨hown, HL.out, fun i x y hx hy => by rw [hx] at hy; injection hy with hy; subst hy; exact ⟨rfl, rfl, rfl⟩, fun i y hy => by
        obtain ⟨b, o, _, hb, hN⟩ := (hL.fr f1 (by simp)) i y hy
        refine ⟨fun j k hk => ?_, hN.t, hN.kl, hN.kc, hN.kn⟩
        obtain ⟨b2, o2, e2, hb2, hc2⟩ := hN.k j k hk
        exact ⟨b2, o2, e2, by omega, by have := f1.size; omega, hc2⟩⟩
      clear hown hgc
      have hlm : len ≤ 2600000000000 := by have := HM.out; omega
      have HRUN : Hid _ := hrun
      have HKS : Hid _ := hks
      clear hrun hks hL hcap
      go_enter Tryz.func28, Tryz.ntmps28
      go_wp2_with (at_builtin; refine wpList_append_run _ rfl _ _ 23 rfl _ _ rfl rfl HRUN.out ?_)
      go_wp2
      go_loopw [9] (fun i wr => ∃ p : Nat, p ≤ len ∧ i = .int .i64 p ∧ Fr [] w wr ∧ ∃ M, TW wr w.heap.size g len c L M) (fun i _ => len - (intOf i).toNat)
      case atStart => exact ⟨0, Nat.zero_le _, rfl, f1, L, T0⟩
      case round =>
        obtain ⟨p, hp, rfl, fw, M, hT⟩ := hrel
        clear T0
        by_cases hlt : p < len
        · have hy : M[p]? = some (M[p]'(by rw [hT.len]; exact hlt)) := List.getElem?_eq_getElem _
          have hxl : L[p]? = some (L[p]'(by rw [HL.out]; exact hlt)) := List.getElem?_eq_getElem _
          generalize M[p]'(by rw [hT.len]; exact hlt) = y at hy
          generalize L[p]'(by rw [HL.out]; exact hlt) = x at hxl
          have hk8 : y.ks.length * 8 ≤ 140737488355328 := by rw [(hT.eq p x y hxl hy).2.2]; exact HKS.out p x hxl
          obtain ⟨kn, ty, ly, cy, ny⟩ := hT.ok p y hy
          have c2 : wr.cell? ⟨g, p * 4 + 2, none⟩ = some (.slice y.a y.ks.length y.c) := hT.cell hy (show 2 < 4 by omega)
          obtain ⟨v2, w2, hrun2, hOR, f2⟩ := app_ints wr y.ks y.a y.ks.length y.c rfl kn.kat ny hk8
          obtain ⟨a2, cc2, rfl, hcc, hnn⟩ := hOR.slice
          have hgw : g < wr.heap.size := World.block_lt_of_cell? wr _ c2
          have T2 := (hT.fr f2).put (j := 2) (y' := { y with a := a2, c := cc2 }) hy (by omega) (.slice a2 y.ks.length cc2) rfl ⟨rfl, rfl, rfl⟩ ⟨fun j k hk => by
            obtain ⟨b, o, e, hb, hc⟩ := hOR.kat j k hk
            refine ⟨b, o, e, ?_, hb, hc⟩
            intro eb
            obtain ⟨_, h2⟩ := hOR
            rcases h2 with ⟨e2, h02⟩ | ⟨g', cap', cur', e2, hb2, _⟩
            · injection e2 with e3
              rw [e3] at e
              cases e
            · injection e2 with e3
              rw [e3] at e
              injection e with e
              injection e with e
              omega, ty, ly, hcc, hnn⟩
          have c3 : w2.cell? ⟨g, p * 4 + 2, none⟩ = some (.slice y.a y.ks.length y.c) := f2.cell1 c2 (by simp)
          have hfz := (hT.fr f2).own.frozenAt (p * 4 + 2)
          have HRUN2 : Hid _ := hrun2
          have F2 := (fw.trans f2).setCell (p := ⟨g, p * 4 + 2, none⟩) (.inr hg) (.slice a2 y.ks.length cc2)
          clear hrun2 hOR hT kn hxl hy
          go_wp2_with (at_builtin; refine wpList_append_run _ rfl _ _ 26 rfl _ _ rfl rfl HRUN2.out ?_)
          go_wp2
          go_roundw
          case rel => exact ⟨p + 1, hlt, by go_num, F2, _, T2⟩
          case measure => simp [intOf]; omega
        · go_wp2
          go_ret
          exact ⟨⟨_, _, rfl, fun _ => ⟨g, M, rfl, hg, hT⟩⟩, fw⟩
end Go.Proofs.YtnmfcaahdeddnaaGreatDoor.T5
