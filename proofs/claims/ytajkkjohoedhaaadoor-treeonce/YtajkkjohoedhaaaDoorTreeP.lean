/-
  Whose kid each node is, by the program and by the document; conditions: the table lies as the program's text lays it, the list lies as told.
-/
import Derived.Test.YtajkkjohoedhaaaDoorTreeO
namespace Go.Proofs.YtajkkjohoedhaaaDoor
open Go.RowKit
set_option linter.unusedVariables false
set_option linter.unusedSimpArgs false

theorem nodes_in {L : List Nd} : ∀ (n : Nat) (T : List Bool), nodesL L n = .ok T → ∀ (i : Nat) (x : Nd), i < n → L[i]? = some x → ∀ k ∈ x.ks, 0 ≤ k ∧ k < i
  | 0, T, h, i, x, hi, hx, k, hk => by omega
  | n + 1, T, h, i, x, hi, hx, k, hk => by
    unfold nodesL at h
    split at h
    · cases h
    · rename_i T0 h0
      by_cases e : i = n
      · subst e
        rw [hx] at h
        simp only at h
        split at h
        · cases h
        · rename_i T1 h1
          unfold nodeE at h1
          split at h1
          · cases h1
          · split at h1
            · cases h1
            · split at h1
              · cases h1
              · rename_i ht2
                exact take_in _ _ _ ht2 k hk
      · exact nodes_in n T0 h0 i x (by omega) hx k hk

/-- A list that Check takes. -/
theorem check_zero {L : List Nd} {p : Nat} (h : checkL L = (p, 0)) : ∃ T, nodesL L L.length = .ok T ∧ L.length ≠ 0 ∧ L.length ≤ 50000 ∧ kd L ((L.length - 1 : Nat) : Int) = 1 ∧ has0 T (L.length - 1) = false := by
  by_cases h0 : 50000 < L.length
  · rw [check_long h0] at h; cases h
  · cases hn : nodesL L L.length with
    | error e =>
      rw [check_err h0 hn] at h
      exfalso
      subst h
      have : ∀ n, nodesL L n ≠ .error (p, 0) := by
        intro n
        induction n with
        | zero => intro e; cases e
        | succ n ih =>
          intro e
          unfold nodesL at e
          split at e
          · rename_i e2 he2
            cases e
            exact ih he2
          · split at e
            · cases e
            · split at e
              · rename_i er he
                cases e
                have := node_err he
                omega
              · cases e
      exact this _ hn
    | ok T =>
      by_cases hz : L.length = 0
      · rw [check_empty hz] at h; cases h
      · by_cases hb : kd L ((L.length - 1 : Nat) : Int) ≠ 1 ∨ has0 T (L.length - 1) = true
        · rw [check_last h0 hn hz hb] at h; cases h
        · refine ⟨T, rfl, hz, by omega, ?_, ?_⟩
          · exact Decidable.byContradiction fun hh => hb (.inl hh)
          · cases hh : has0 T (L.length - 1) with
            | false => rfl
            | true => exact absurd (.inr hh) hb

def upK (i : Nat) : List Int → List Int → List Int
  | [], P => P
  | k :: r, P => upK i r (P.set k.toNat i)
def upL (L : List Nd) : Nat → List Int
  | 0 => (List.replicate L.length 0).set (L.length - 1) (-1)
  | n + 1 => match L[n]? with | some x => upK n x.ks (upL L n) | none => upL L n
theorem upK_length (i : Nat) : ∀ (ks P : List Int), (upK i ks P).length = P.length
  | [], P => rfl
  | k :: r, P => by rw [upK, upK_length i r]; simp
theorem upL_length (L : List Nd) : ∀ n, (upL L n).length = L.length
  | 0 => by simp [upL]
  | n + 1 => by
    unfold upL
    split
    · rw [upK_length, upL_length L n]
    · exact upL_length L n

/-- What both answer. -/
def PO (w w' : World) (L : List Nd) (len : Nat) (e : Ending) : Prop :=
  ((checkL L).2 = 0 → ∃ g, e = .returned (.slice (some ⟨g, 0, none⟩) len len) ∧ w.heap.size ≤ g ∧ IB w' g (upL L len)) ∧ ((checkL L).2 ≠ 0 → e = .returned (.slice none 0 0))

set_option maxRecDepth 100000 in
set_option maxHeartbeats 2000000 in
theorem parents_any (B : Nat) (L : List Nd) (w : World) (a : Option Addr) (len cap : Nat) (hlen : L.length = len) (hL : NAt B w a L) (hm : len ≤ 2600000000000) (hB : B ≤ w.heap.size) (TT : Tabs w) :
    Calls Tryd.prog 20 #[.slice a len cap] w fun e w' => PO w w' L len e ∧ Fr [] w w' := by
  have HL : Hid (L.length = len) := hlen
  have HB : Hid (B ≤ w.heap.size) := hB
  have C := check_any B L w a len cap hlen hL hm hB TT
  clear hB hlen
  unfold cOut at C
  generalize hR : checkL L = R at C
  obtain ⟨p0, er⟩ := R
  by_cases h0 : er = 0
  · subst h0
    obtain ⟨T, hn, hz, h5, _, _⟩ := check_zero hR
    have HIN : Hid (∀ (i : Nat) (x : Nd), i < len → L[i]? = some x → ∀ k ∈ x.ks, 0 ≤ k ∧ k < i) := by have := nodes_in _ _ hn; rw [HL.out] at this; exact this
    have HR : Hid ((checkL L).2 = 0) := by unfold Hid; rw [hR]
    have hpos : 0 < len := by have := HL.out; omega
    have hp1 : (len : Int) - 1 = ((len - 1 : Nat) : Int) := by omega
    have HUL : Hid (∀ n, (upL L n).length = len) := fun n => by rw [upL_length, HL.out]
    have HU0 : Hid (upL L 0 = (List.replicate len 0).set (len - 1) (-1)) := by unfold Hid; rw [upL, HL.out]
    clear hR hn hz h5
    go_enter Tryd.func20, Tryd.ntmps20
    go_wp2_with fail
    refine C.mono ?_
    rintro e w1 ⟨rfl, f1⟩
    have hmk := make_ints w1 len (by omega)
    have I0 : IB (w1.alloc (.cells ((List.replicate len (0 : Int)).map (Value.int .i64)).toArray 3)) w1.heap.size (List.replicate len 0) := heap_alloc_new w1 _
    have f2 : Fr [] w1 (w1.alloc (.cells ((List.replicate len (0 : Int)).map (Value.int .i64)).toArray 3)) := (Fr.refl _ _).alloc _
    generalize w1.alloc (.cells ((List.replicate len (0 : Int)).map (Value.int .i64)).toArray 3) = w2 at *
    have hc := I0.cell (i := len - 1) (v := 0) (by rw [List.getElem?_replicate, if_pos (by omega)])
    have hfz := I0.fz (len - 1)
    have I1 := I0.set (len - 1) (-1)
    rw [← HU0.out] at I1
    have F2 := (f1.trans f2).setCell (p := ⟨w1.heap.size, len - 1, none⟩) (.inr f1.size) (.int .i64 (-1))
    have HG : Hid (w.heap.size ≤ w1.heap.size) := f1.size
    clear I0 C
    generalize w1.heap.size = g at *
    go_wp2
    clear hmk
    generalize w2.setCell ⟨g, len - 1, none⟩ (.int .i64 (-1)) = w3 at *
    clear hc hfz f1 f2
    go_loopw [26] (fun i wr => ∃ p : Nat, p ≤ len ∧ i = .int .i64 p ∧ Fr [] w wr ∧ IB wr g (upL L p)) (fun i _ => len - (intOf i).toNat)
    case atStart => exact ⟨0, Nat.zero_le _, rfl, F2, I1⟩
    case round =>
      obtain ⟨p, hp, rfl, fw, hI⟩ := hrel
      clear I1 F2
      by_cases hlt : p < len
      · have hx : L[p]? = some (L[p]'(by rw [HL.out]; exact hlt)) := List.getElem?_eq_getElem _
        generalize L[p]'(by rw [HL.out]; exact hlt) = x at hx
        have HK : Hid (∀ k ∈ x.ks, 0 ≤ k ∧ k < p) := HIN.out p x hlt hx
        have HUP : Hid (upL L (p + 1) = upK p x.ks (upL L p)) := by unfold Hid; rw [upL, hx]
        obtain ⟨b, o, rfl, hb, hN⟩ := (hL.fr fw (by simp)) p x hx
        obtain ⟨kind, text, xa, xc, ks, pl⟩ := x
        simp only at HK HUP
        have n2 : wr.cell? ⟨b, o + p * 4 + 2, none⟩ = some (.slice xa ks.length xc) := hN.c2
        have hkl : ks.length ≤ maxLen := hN.kl
        have hkk : KAt B wr xa ks := hN.k
        unfold maxLen at hkl
        clear hN hx
        go_wp2
        have fI : Fr [g] wr wr := Fr.refl _ _
        generalize hwA : wr = A at *
        clear hwA
        go_loopw [35] (fun j wq => ∃ q : Nat, q ≤ ks.length ∧ j = .int .i64 q ∧ Fr [g] A wq ∧ ∃ P : List Int, IB wq g P ∧ P.length = len ∧ Hid (upK p (ks.drop q) P = upK p ks (upL L p))) (fun j _ => ks.length - (intOf j).toNat)
        case atStart => exact ⟨0, Nat.zero_le _, rfl, Fr.refl _ _, _, hI, HUL.out p, rfl⟩
        case round =>
          obtain ⟨q, hq, rfl, fq, P, hP, hPl, he⟩ := hrel
          clear hI n2
          have HPl : Hid (P.length = len) := hPl
          clear hPl
          by_cases hql : q < ks.length
          · have hk : ks[q]? = some ks[q] := List.getElem?_eq_getElem hql
            have hdr := List.drop_eq_getElem_cons hql
            generalize ks[q] = k at hk hdr
            have hkb := HK.out k (List.mem_of_getElem? hk)
            obtain ⟨r, rfl⟩ := Int.eq_ofNat_of_zero_le hkb.1
            have hrp : r < p := by omega
            obtain ⟨kb, ko, rfl, hkb', hcell⟩ := (hkk.fr fq (by have := HG.out; have := HB.out; simp; omega)) q _ hk
            have HE : Hid (upK p (ks.drop (q + 1)) (P.set r (p : Int)) = upK p ks (upL L p)) := by unfold Hid; rw [← he.out, hdr, upK]; simp
            have hrl : r < P.length := by rw [HPl.out]; omega
            have hc := hP.cell (i := r) (v := P[r]'hrl) (List.getElem?_eq_getElem hrl)
            have hfz := hP.fz r
            have hS := hP.set r (p : Int)
            have gq := fq.setCell (p := ⟨g, r, none⟩) (.inl (by simp)) (.int .i64 (p : Int))
            generalize P[r]'hrl = old at hc
            clear hk hdr he hkb hrl
            go_wp2
            go_roundw
            case rel => exact ⟨q + 1, hql, by go_num, gq, _, hS, by rw [List.length_set]; exact HPl.out, HE⟩
            case measure => simp [intOf]; omega
          · have HE : Hid (P = upL L (p + 1)) := by
              unfold Hid
              rw [HUP.out, ← he.out, List.drop_of_length_le (by omega)]
              rfl
            go_wp2
            go_roundw
            case rel => exact ⟨p + 1, hlt, by go_num, fw.over fq (by have := HG.out; simpa using this), by rw [← HE.out]; exact hP⟩
            case measure => simp [intOf]; omega
      · have hpe : p = len := by omega
        subst hpe
        go_wp2
        go_ret
        exact ⟨⟨fun _ => ⟨g, rfl, HG.out, hI⟩, fun h => absurd HR.out h⟩, fw⟩
  · have HR : Hid ((checkL L).2 ≠ 0) := by unfold Hid; rw [hR]; exact h0
    have h0' : ((er : Int) == 0) = false := beq_int_false (by omega)
    clear hR h0
    go_enter Tryd.func20, Tryd.ntmps20
    go_wp2_with fail
    refine C.mono ?_
    rintro e w1 ⟨rfl, f1⟩
    go_wp2
    go_ret
    exact ⟨⟨fun h => absurd h HR.out, fun _ => rfl⟩, f1⟩

set_option maxRecDepth 100000 in
set_option maxHeartbeats 2000000 in
theorem rparents_any (B : Nat) (L : List Nd) (w : World) (a : Option Addr) (len cap : Nat) (hlen : L.length = len) (hL : NAt B w a L) (hm : len ≤ 2600000000000) (hB : B ≤ w.heap.size) :
    Calls Tryd.prog 21 #[.slice a len cap] w fun e w' => PO w w' L len e ∧ Fr [] w w' := by
  have HL : Hid (L.length = len) := hlen
  have HB : Hid (B ≤ w.heap.size) := hB
  have C := rcheck_any B L w a len cap hlen hL hm hB
  clear hB hlen
  unfold cOut at C
  generalize hR : checkL L = R at C
  obtain ⟨p0, er⟩ := R
  by_cases h0 : er = 0
  · subst h0
    obtain ⟨T, hn, hz, h5, _, _⟩ := check_zero hR
    have HIN : Hid (∀ (i : Nat) (x : Nd), i < len → L[i]? = some x → ∀ k ∈ x.ks, 0 ≤ k ∧ k < i) := by have := nodes_in _ _ hn; rw [HL.out] at this; exact this
    have HR : Hid ((checkL L).2 = 0) := by unfold Hid; rw [hR]
    have hpos : 0 < len := by have := HL.out; omega
    have hp1 : (len : Int) - 1 = ((len - 1 : Nat) : Int) := by omega
    have HUL : Hid (∀ n, (upL L n).length = len) := fun n => by rw [upL_length, HL.out]
    have HU0 : Hid (upL L 0 = (List.replicate len 0).set (len - 1) (-1)) := by unfold Hid; rw [upL, HL.out]
    clear hR hn hz h5
    go_enter Tryd.func21, Tryd.ntmps21
    go_wp2_with fail
    refine C.mono ?_
    rintro e w1 ⟨rfl, f1⟩
    have hmk := make_ints w1 len (by omega)
    have I0 : IB (w1.alloc (.cells ((List.replicate len (0 : Int)).map (Value.int .i64)).toArray 3)) w1.heap.size (List.replicate len 0) := heap_alloc_new w1 _
    have f2 : Fr [] w1 (w1.alloc (.cells ((List.replicate len (0 : Int)).map (Value.int .i64)).toArray 3)) := (Fr.refl _ _).alloc _
    generalize w1.alloc (.cells ((List.replicate len (0 : Int)).map (Value.int .i64)).toArray 3) = w2 at *
    have hc := I0.cell (i := len - 1) (v := 0) (by rw [List.getElem?_replicate, if_pos (by omega)])
    have hfz := I0.fz (len - 1)
    have I1 := I0.set (len - 1) (-1)
    rw [← HU0.out] at I1
    have F2 := (f1.trans f2).setCell (p := ⟨w1.heap.size, len - 1, none⟩) (.inr f1.size) (.int .i64 (-1))
    have HG : Hid (w.heap.size ≤ w1.heap.size) := f1.size
    clear I0 C
    generalize w1.heap.size = g at *
    go_wp2
    clear hmk
    generalize w2.setCell ⟨g, len - 1, none⟩ (.int .i64 (-1)) = w3 at *
    clear hc hfz f1 f2
    go_loopw [27] (fun i wr => ∃ p : Nat, p ≤ len ∧ i = .int .i64 p ∧ Fr [] w wr ∧ IB wr g (upL L p)) (fun i _ => len - (intOf i).toNat)
    case atStart => exact ⟨0, Nat.zero_le _, rfl, F2, I1⟩
    case round =>
      obtain ⟨p, hp, rfl, fw, hI⟩ := hrel
      clear I1 F2
      by_cases hlt : p < len
      · have hx : L[p]? = some (L[p]'(by rw [HL.out]; exact hlt)) := List.getElem?_eq_getElem _
        generalize L[p]'(by rw [HL.out]; exact hlt) = x at hx
        have HK : Hid (∀ k ∈ x.ks, 0 ≤ k ∧ k < p) := HIN.out p x hlt hx
        have HUP : Hid (upL L (p + 1) = upK p x.ks (upL L p)) := by unfold Hid; rw [upL, hx]
        obtain ⟨b, o, rfl, hb, hN⟩ := (hL.fr fw (by simp)) p x hx
        obtain ⟨kind, text, xa, xc, ks, pl⟩ := x
        simp only at HK HUP
        have fa : Fr [] wr (wr.alloc (.cells #[.int .i64 kind, .string text, .slice xa ks.length xc, .int .i64 pl] 39)) := (Fr.refl _ _).alloc _
        obtain ⟨q0, q1, q2, q3, hkk0, _, hkl, _, _⟩ := hN
        simp only at q0 q1 q2 q3 hkk0 hkl
        have hkk := hkk0.fr fa (by simp)
        have hI1 := hI.fr fa (by simp)
        have fw1 := fw.trans fa
        unfold maxLen at hkl
        clear hx hI fw hkk0
        go_wp2
        clear fa q0 q1 q2 q3
        generalize wr.alloc (.cells #[.int .i64 kind, .string text, .slice xa ks.length xc, .int .i64 pl] 39) = A at *
        go_loopw [35] (fun j wq => ∃ q : Nat, q ≤ ks.length ∧ j = .int .i64 q ∧ Fr [g] A wq ∧ ∃ P : List Int, IB wq g P ∧ P.length = len ∧ Hid (upK p (ks.drop q) P = upK p ks (upL L p))) (fun j _ => ks.length - (intOf j).toNat)
        case atStart => exact ⟨0, Nat.zero_le _, rfl, Fr.refl _ _, _, hI1, HUL.out p, rfl⟩
        case round =>
          obtain ⟨q, hq, rfl, fq, P, hP, hPl, he⟩ := hrel
          clear hI1
          have HPl : Hid (P.length = len) := hPl
          clear hPl
          by_cases hql : q < ks.length
          · have hk : ks[q]? = some ks[q] := List.getElem?_eq_getElem hql
            have hdr := List.drop_eq_getElem_cons hql
            generalize ks[q] = k at hk hdr
            have hkb := HK.out k (List.mem_of_getElem? hk)
            obtain ⟨r, rfl⟩ := Int.eq_ofNat_of_zero_le hkb.1
            have hrp : r < p := by omega
            obtain ⟨kb, ko, rfl, hkb', hcell⟩ := (hkk.fr fq (by have := HG.out; have := HB.out; simp; omega)) q _ hk
            have HE : Hid (upK p (ks.drop (q + 1)) (P.set r (p : Int)) = upK p ks (upL L p)) := by unfold Hid; rw [← he.out, hdr, upK]; simp
            have hrl : r < P.length := by rw [HPl.out]; omega
            have hc := hP.cell (i := r) (v := P[r]'hrl) (List.getElem?_eq_getElem hrl)
            have hfz := hP.fz r
            have hS := hP.set r (p : Int)
            have gq := fq.setCell (p := ⟨g, r, none⟩) (.inl (by simp)) (.int .i64 (p : Int))
            generalize P[r]'hrl = old at hc
            clear hk hdr he hkb hrl
            go_wp2
            go_roundw
            case rel => exact ⟨q + 1, hql, by go_num, gq, _, hS, by rw [List.length_set]; exact HPl.out, HE⟩
            case measure => simp [intOf]; omega
          · have HE : Hid (P = upL L (p + 1)) := by
              unfold Hid
              rw [HUP.out, ← he.out, List.drop_of_length_le (by omega)]
              rfl
            go_wp2
            go_roundw
            case rel => exact ⟨p + 1, hlt, by go_num, fw1.over fq (by have := HG.out; simpa using this), by rw [← HE.out]; exact hP⟩
            case measure => simp [intOf]; omega
      · have hpe : p = len := by omega
        subst hpe
        go_wp2
        go_ret
        exact ⟨⟨fun _ => ⟨g, rfl, HG.out, hI⟩, fun h => absurd HR.out h⟩, fw⟩
  · have HR : Hid ((checkL L).2 ≠ 0) := by unfold Hid; rw [hR]; exact h0
    have h0' : ((er : Int) == 0) = false := beq_int_false (by omega)
    clear hR h0
    go_enter Tryd.func21, Tryd.ntmps21
    go_wp2_with fail
    refine C.mono ?_
    rintro e w1 ⟨rfl, f1⟩
    go_wp2
    go_ret
    exact ⟨⟨fun h => absurd h HR.out, fun _ => rfl⟩, f1⟩
end Go.Proofs.YtajkkjohoedhaaaDoor
