/-
  Texts of the proof, in their order: TreeG, TreeH, TreeK, TreeL, TreeM, TreeQ; conditions: as each says.
-/
import Derived.Laws.OwnMore
import Derived.Test.YtnmfcaahdeddnaaGreatDoorMgBOKO
namespace Go.Proofs.YtnmfcaahdeddnaaGreatDoor.T5
open Go.RowKit
set_option maxRecDepth 100000
set_option linter.unusedVariables false
set_option linter.unusedSimpArgs false

/-- A row of numbers, of its own. -/
def IB (w : World) (g : Nat) (D : List Int) : Prop := w.heap[g]? = some (.cells (D.map (Value.int .i64)).toArray 3 (0, 0))
theorem IB.fr {w w' : World} {g : Nat} {D : List Int} {S : List Nat} (h : IB w g D) (f : Fr S w w') (hg : g ∉ S) : IB w' g D :=
  (f.block g (Array.getElem?_eq_some_iff.1 h).1 hg).trans h
theorem IB.lt {w : World} {g : Nat} {D : List Int} (h : IB w g D) : g < w.heap.size := (Array.getElem?_eq_some_iff.1 h).1
theorem IB.fz {w : World} {g : Nat} {D : List Int} (h : IB w g D) (i : Nat) : w.frozen? ⟨g, i, none⟩ = false := by unfold IB at h; simp [World.frozen?, h]
theorem IB.cell {w : World} {g : Nat} {D : List Int} (h : IB w g D) {i : Nat} {v : Int} (hi : D[i]? = some v) : w.cell? ⟨g, i, none⟩ = some (.int .i64 v) := by
  unfold IB at h
  simp [World.cell?, h, hi]
theorem IB.set {w : World} {g : Nat} {D : List Int} (h : IB w g D) (i : Nat) (v : Int) : IB (w.setCell ⟨g, i, none⟩ (.int .i64 v)) g (D.set i v) := by
  unfold IB
  rw [heap_setCell_same _ _ _ _ _ _ h]
  congr 2
  simp [List.map_set]

theorem info3 : (Tryz.prog.info? 3).map (fun i => (i.zero, i.size, i.bytes)) = some (some (.int .i64 0), 1, 8) := by kernel_rfl
theorem info4 : (Tryz.prog.info? 4).map (fun i => (i.zero, i.size, i.bytes)) = some (some (.bool false), 1, 1) := by kernel_rfl
theorem made_one (z : Value) (n : Nat) : madeCells #[z] n = (List.replicate n z).toArray := by
  apply Array.ext'
  rw [toList_madeCells_one]
/-- Rows that are made. -/
theorem make_ints (w : World) (n : Nat) (h : n ≤ 35184372088832) : (Instr.makeSlice 26 (.int .i64 n) (.int .i64 n)).run Tryz.prog w = .ok (.slice (some ⟨w.heap.size, 0, none⟩) n n) (w.alloc (.cells ((List.replicate n (0 : Int)).map (Value.int .i64)).toArray 3)) := by
  obtain ⟨i, hi, hz, hs, hb⟩ := info_parts info3
  have := run_make (P := Tryz.prog) w 26 3 i (.int .i64 0) Tryz.underlying26 hi hz .i64 .i64 n n (by omega) (Int.le_refl _) (by rw [hb]; omega) (by omega)
  rw [this, hs]
  simp [Value.cells, made_one]
theorem make_bools (w : World) (n : Nat) (h : n ≤ 35184372088832) : (Instr.makeSlice 64 (.int .i64 n) (.int .i64 n)).run Tryz.prog w = .ok (.slice (some ⟨w.heap.size, 0, none⟩) n n) (w.alloc (.cells ((List.replicate n false).map Value.bool).toArray 4)) := by
  obtain ⟨i, hi, hz, hs, hb⟩ := info_parts info4
  have := run_make (P := Tryz.prog) w 64 4 i (.bool false) Tryz.underlying64 hi hz .i64 .i64 n n (by omega) (Int.le_refl _) (by rw [hb]; omega) (by omega)
  rw [this, hs]
  simp [Value.cells, made_one]

/-- The row of depths while node i is at work. -/
def rowD (L : List Nd) (len i : Nat) (d : Int) : List Int := (depths L i).map (fun (n : Nat) => (n : Int)) ++ d :: List.replicate (len - i - 1) 0
theorem rowD_at {L : List Nd} {len i : Nat} {d : Int} : (rowD L len i d)[i]? = some d := by
  unfold rowD
  rw [List.getElem?_append_right (by simp [depths_length])]
  simp [depths_length]
theorem rowD_low {L : List Nd} {len i k : Nat} {d : Int} (h : k < i) : (rowD L len i d)[k]? = some (((depths L i).getD k 0 : Nat) : Int) := by
  unfold rowD
  rw [List.getElem?_append_left (by simp [depths_length]; exact h)]
  simp [List.getD_eq_getElem?_getD, depths_length, h]
theorem rowD_set {L : List Nd} {len i : Nat} {d d' : Int} : (rowD L len i d).set i d' = rowD L len i d' := by
  unfold rowD
  rw [List.set_append_right _ _ (by simp [depths_length])]
  simp [depths_length]
theorem rowD_next {L : List Nd} {len i : Nat} {x : Nd} (hx : L[i]? = some x) (hl : i + 1 < len) : rowD L len i ((kidD (depths L i) i x.ks 1 : Nat) : Int) = rowD L len (i + 1) 0 := by
  unfold rowD
  rw [depths, hx]
  simp only [List.map_append, List.map_cons, List.map_nil, List.append_assoc, List.singleton_append]
  rw [show len - i - 1 = (len - (i + 1) - 1) + 1 by omega, List.replicate_succ]
theorem rowD_zero {L : List Nd} {len : Nat} (h : 0 < len) : List.replicate len (0 : Int) = rowD L len 0 0 := by
  unfold rowD
  simp only [depths, List.map_nil, List.nil_append]
  rw [show len = (len - 0 - 1) + 1 by omega, List.replicate_succ]
  simp
theorem rowD_end {L : List Nd} {len : Nat} {x : Nd} (hl : L.length = len) (hx : L[len - 1]? = some x) (h : 0 < len) : kidD (depths L (len - 1)) (len - 1) x.ks 1 = deepL L := by
  unfold deepL
  rw [hl]
  conv => rhs; rw [show len = len - 1 + 1 by omega]
  rw [depths, hx]
  simp [List.getD_eq_getElem?_getD, depths_length]

set_option maxRecDepth 100000 in
set_option maxHeartbeats 2000000 in
theorem deep_any (B : Nat) (L : List Nd) (w : World) (a : Option Addr) (len cap : Nat) (hlen : L.length = len) (hL : NAt B w a L) (hm : len ≤ 2600000000000) (hB : B ≤ w.heap.size) :
    Calls Tryz.prog 43 #[.slice a len cap] w fun e w' => e = .returned (.int .i64 (deepL L)) ∧ Fr [] w w' := by
  have HL : Hid (L.length = len) := hlen
  have HB : Hid (B ≤ w.heap.size) := hB
  clear hB
  by_cases h0 : len = 0
  · have : L = [] := by rw [← List.length_eq_zero_iff, hlen, h0]
    subst this h0
    go_enter Tryz.func43, Tryz.ntmps43
    go_wp2
    go_ret
    exact ⟨rfl, Fr.refl _ _⟩
  · clear hlen
    have hmk := make_ints w len (by omega)
    have I0 : IB (w.alloc (.cells ((List.replicate len (0 : Int)).map (Value.int .i64)).toArray 3)) w.heap.size (rowD L len 0 0) := by rw [← rowD_zero (by omega)]; exact heap_alloc_new w _
    have f0 : Fr [] w (w.alloc (.cells ((List.replicate len (0 : Int)).map (Value.int .i64)).toArray 3)) := (Fr.refl _ _).alloc _
    generalize w.alloc (.cells ((List.replicate len (0 : Int)).map (Value.int .i64)).toArray 3) = w0 at *
    have hpos : 0 < len := by omega
    have h0' : ((len : Int) == 0) = false := beq_int_false (by omega)
    clear h0
    go_enter Tryz.func43, Tryz.ntmps43
    go_wp2
    go_loopw [15] (fun i wr => ∃ p : Nat, p ≤ len ∧ i = .int .i64 p ∧ Fr [] w wr ∧ (p < len → IB wr w.heap.size (rowD L len p 0)) ∧ (p = len → IB wr w.heap.size (rowD L len (len - 1) (deepL L : Nat)))) (fun i _ => len - (intOf i).toNat)
    case atStart => exact ⟨0, Nat.zero_le _, rfl, f0, fun _ => I0, fun h => by omega⟩
    case round =>
      obtain ⟨p, hp, rfl, fw, hI, hJ⟩ := hrel
      clear I0 hmk
      by_cases hlt : p < len
      · have hI := hI hlt
        clear hJ
        have hx : L[p]? = some (L[p]'(by rw [HL.out]; exact hlt)) := List.getElem?_eq_getElem _
        generalize L[p]'(by rw [HL.out]; exact hlt) = x at hx
        have HX : Hid (∀ m : Nat, p + 1 < len → kidD (depths L p) p x.ks 1 = m → rowD L len p (m : Nat) = rowD L len (p + 1) 0) := fun m h e => by rw [← e]; exact rowD_next hx h
        have HY : Hid (∀ m : Nat, p + 1 = len → kidD (depths L p) p x.ks 1 = m → rowD L len p (m : Nat) = rowD L len (len - 1) (deepL L : Nat)) := fun m h e => by
          have hp1 : p = len - 1 := by omega
          subst hp1
          rw [← e, rowD_end HL.out hx (by omega)]
        obtain ⟨b, o, rfl, hb, hN⟩ := (hL.fr fw (by simp)) p x hx
        obtain ⟨kind, text, xa, xc, ks, pl⟩ := x
        simp only at HX HY
        have hc0 := hI.cell rowD_at
        have hfz := hI.fz p
        have hI1 := hI.set p 1
        rw [rowD_set] at hI1
        have fw1 := fw.setCell (p := ⟨w.heap.size, p, none⟩) (.inr (Nat.le_refl _)) (.int .i64 1)
        have hbw : b ≠ w.heap.size := by have := HB.out; omega
        have f1 : Fr [w.heap.size] wr (wr.setCell ⟨w.heap.size, p, none⟩ (.int .i64 1)) := (Fr.refl _ _).setCell (p := ⟨w.heap.size, p, none⟩) (.inl (by simp)) _
        have hN1 := hN.fr f1 hb (by simpa using HB.out)
        have n2 : _ = some (Value.slice xa ks.length xc) := hN1.c2
        have hkl : ks.length ≤ maxLen := hN1.kl
        have hkk : KAt B _ xa ks := hN1.k
        unfold maxLen at hkl
        clear hI hN f1 hN1 hx
        have hb1 : ∀ d ∈ depths L p, d ≤ p := depths_le L p
        have HD : ∀ r : Nat, Hid ((depths L p).getD r 0 ≤ p) := fun r => getD_le hb1 r
        clear hb1
        go_wp2
        generalize wr.setCell ⟨w.heap.size, p, none⟩ (.int .i64 1) = w1 at *
        go_loopw [27] (fun j wq => ∃ q d : Nat, q ≤ ks.length ∧ j = .int .i64 q ∧ Fr [w.heap.size] w1 wq ∧ Fr [] w wq ∧ IB wq w.heap.size (rowD L len p (d : Nat)) ∧ d ≤ p + 1 ∧ Hid (kidD (depths L p) p (ks.drop q) d = kidD (depths L p) p ks 1)) (fun j _ => ks.length - (intOf j).toNat)
        case atStart => exact ⟨0, 1, Nat.zero_le _, rfl, Fr.refl _ _, fw1, hI1, by omega, rfl⟩
        case round =>
          obtain ⟨q, d, hq, rfl, fq, fqw, hIq, hd, he⟩ := hrel
          clear hI1 hc0 hfz n2
          by_cases hql : q < ks.length
          · have hk : ks[q]? = some ks[q] := List.getElem?_eq_getElem hql
            have hdr := List.drop_eq_getElem_cons hql
            generalize ks[q] = k at hk hdr
            obtain ⟨kb, ko, rfl, hkb, hcell⟩ := (hkk.fr fq (by simpa using HB.out)) q k hk
            have HE : Hid (kidD (depths L p) p (ks.drop (q + 1)) (if 0 ≤ k ∧ k < (p : Int) then max d (1 + (depths L p).getD k.toNat 0) else d) = kidD (depths L p) p ks 1) := by unfold Hid; rw [← he.out, hdr]; rfl
            clear hk hdr he
            by_cases h1 : k < 0
            · rw [if_neg (by omega)] at HE
              have HE2 : Hid _ := HE.out
              clear HE
              go_wp2
              go_roundw
              case rel => exact ⟨q + 1, d, hql, by go_num, fq, fqw, hIq, hd, HE2⟩
              case measure => simp [intOf]; omega
            · by_cases h2 : (p : Int) ≤ k
              · rw [if_neg (by omega)] at HE
                have HE2 : Hid _ := HE.out
                clear HE
                go_wp2
                go_roundw
                case rel => exact ⟨q + 1, d, hql, by go_num, fq, fqw, hIq, hd, HE2⟩
                case measure => simp [intOf]; omega
              · obtain ⟨r, rfl⟩ := Int.eq_ofNat_of_zero_le (show 0 ≤ k by omega)
                have hr : r < p := by omega
                rw [if_pos (by omega)] at HE
                simp only [Int.toNat_natCast] at HE
                have HE2 : Hid _ := HE.out
                clear HE
                have c1 := hIq.cell rowD_at
                have c2 := hIq.cell (rowD_low hr)
                have z1 := hIq.fz p
                have hS := hIq.set p ((max d (1 + (depths L p).getD r 0) : Nat) : Int)
                rw [rowD_set] at hS
                have hD := (HD r).out
                generalize (depths L p).getD r 0 = D at *
                go_wp2
                go_region
                have ev : max (d : Int) (1 + (D : Int)) = ((max d (1 + D) : Nat) : Int) := by omega
                rw [ev]
                have hmx : max d (1 + D) ≤ p + 1 := by omega
                have gq := (fq.setCell (p := ⟨w.heap.size, p, none⟩) (.inl (by simp)) (.int .i64 ((max d (1 + D) : Nat) : Int))).drew
                have gw := (fqw.setCell (p := ⟨w.heap.size, p, none⟩) (.inr (Nat.le_refl _)) (.int .i64 ((max d (1 + D) : Nat) : Int))).drew
                have hS' := hS.fr ((Fr.refl [] _).drew) (by simp)
                clear hS c1 c2 z1
                go_wp2
                go_roundw
                case rel => exact ⟨q + 1, _, hql, by go_num, gq, gw, hS', hmx, HE2⟩
                case measure => simp [intOf]; omega
          · have HE : Hid (d = kidD (depths L p) p ks 1) := by unfold Hid; rw [← he.out, List.drop_of_length_le (by omega)]; rfl
            go_wp2
            go_roundw
            case rel =>
              refine ⟨p + 1, hlt, by go_num, fqw, fun h => ?_, fun h => ?_⟩
              · rw [← HX.out d h HE.out.symm]; exact hIq
              · rw [← HY.out d h HE.out.symm]; exact hIq
            case measure => simp [intOf]; omega
      · have hpe : p = len := by omega
        have hI := hJ hpe
        have hx : L[len - 1]? = some (L[len - 1]'(by rw [HL.out]; omega)) := List.getElem?_eq_getElem _
        have hc := hI.cell rowD_at
        go_wp2
        go_ret
        exact ⟨rfl, fw⟩

set_option maxRecDepth 100000 in
set_option maxHeartbeats 2000000 in
theorem rdeep_any (B : Nat) (L : List Nd) (w : World) (a : Option Addr) (len cap : Nat) (hlen : L.length = len) (hL : NAt B w a L) (hm : len ≤ 2600000000000) (hB : B ≤ w.heap.size) :
    Calls Tryz.prog 36 #[.slice a len cap] w fun e w' => e = .returned (.int .i64 (deepL L)) ∧ Fr [] w w' := by
  have HL : Hid (L.length = len) := hlen
  have HB : Hid (B ≤ w.heap.size) := hB
  clear hB
  by_cases h0 : len = 0
  · have : L = [] := by rw [← List.length_eq_zero_iff, hlen, h0]
    subst this h0
    have hmk : (Instr.makeSlice 26 (.int .i64 0) (.int .i64 0)).run Tryz.prog w = .ok (.slice (some ⟨w.heap.size, 0, none⟩) 0 0) (w.alloc (.cells ((List.replicate 0 (0 : Int)).map (Value.int .i64)).toArray 3)) := make_ints w 0 (by omega)
    have f0 : Fr [] w (w.alloc (.cells ((List.replicate 0 (0 : Int)).map (Value.int .i64)).toArray 3)) := (Fr.refl _ _).alloc _
    generalize w.alloc (.cells ((List.replicate 0 (0 : Int)).map (Value.int .i64)).toArray 3) = w0 at *
    go_enter Tryz.func36, Tryz.ntmps36
    go_wp2
    go_loopw [13] (fun i wr => i = .int .i64 0 ∧ Fr [] w wr) (fun i _ => 0)
    case atStart => exact ⟨rfl, f0⟩
    case round =>
      obtain ⟨rfl, fw⟩ := hrel
      go_wp2
      go_ret
      exact ⟨rfl, fw⟩
  · clear hlen
    have hmk := make_ints w len (by omega)
    have I0 : IB (w.alloc (.cells ((List.replicate len (0 : Int)).map (Value.int .i64)).toArray 3)) w.heap.size (rowD L len 0 0) := by rw [← rowD_zero (by omega)]; exact heap_alloc_new w _
    have f0 : Fr [] w (w.alloc (.cells ((List.replicate len (0 : Int)).map (Value.int .i64)).toArray 3)) := (Fr.refl _ _).alloc _
    generalize w.alloc (.cells ((List.replicate len (0 : Int)).map (Value.int .i64)).toArray 3) = w0 at *
    have hpos : 0 < len := by omega
    have h0' : ((len : Int) == 0) = false := beq_int_false (by omega)
    clear h0
    go_enter Tryz.func36, Tryz.ntmps36
    go_wp2
    go_loopw [13] (fun i wr => ∃ p : Nat, p ≤ len ∧ i = .int .i64 p ∧ Fr [] w wr ∧ (p < len → IB wr w.heap.size (rowD L len p 0)) ∧ (p = len → IB wr w.heap.size (rowD L len (len - 1) (deepL L : Nat)))) (fun i _ => len - (intOf i).toNat)
    case atStart => exact ⟨0, Nat.zero_le _, rfl, f0, fun _ => I0, fun h => by omega⟩
    case round =>
      obtain ⟨p, hp, rfl, fw, hI, hJ⟩ := hrel
      clear I0 hmk
      by_cases hlt : p < len
      · have hI := hI hlt
        clear hJ
        have hx : L[p]? = some (L[p]'(by rw [HL.out]; exact hlt)) := List.getElem?_eq_getElem _
        generalize L[p]'(by rw [HL.out]; exact hlt) = x at hx
        have HX : Hid (∀ m : Nat, p + 1 < len → kidD (depths L p) p x.ks 1 = m → rowD L len p (m : Nat) = rowD L len (p + 1) 0) := fun m h e => by rw [← e]; exact rowD_next hx h
        have HY : Hid (∀ m : Nat, p + 1 = len → kidD (depths L p) p x.ks 1 = m → rowD L len p (m : Nat) = rowD L len (len - 1) (deepL L : Nat)) := fun m h e => by
          have hp1 : p = len - 1 := by omega
          subst hp1
          rw [← e, rowD_end HL.out hx (by omega)]
        obtain ⟨b, o, rfl, hb, hN⟩ := (hL.fr fw (by simp)) p x hx
        obtain ⟨kind, text, xa, xc, ks, pl⟩ := x
        simp only at HX HY
        obtain ⟨q0, q1, q2, q3, hkk0, _, hkl, _, _⟩ := hN
        simp only at q0 q1 q2 q3 hkk0 hkl
        have hc0 := hI.cell rowD_at
        have hfz := hI.fz p
        have hlw := hI.lt
        have f1 : Fr [w.heap.size] wr ((wr.setCell ⟨w.heap.size, p, none⟩ (.int .i64 1)).alloc (.cells #[.int .i64 kind, .string text, .slice xa ks.length xc, .int .i64 pl] 55)) := ((Fr.refl _ _).setCell (p := ⟨w.heap.size, p, none⟩) (.inl (by simp)) _).alloc _
        have fw1 : Fr [] w ((wr.setCell ⟨w.heap.size, p, none⟩ (.int .i64 1)).alloc (.cells #[.int .i64 kind, .string text, .slice xa ks.length xc, .int .i64 pl] 55)) := (fw.setCell (p := ⟨w.heap.size, p, none⟩) (.inr (Nat.le_refl _)) (.int .i64 1)).alloc _
        have hI1 := hI.set p 1
        rw [rowD_set] at hI1
        have hI2 : IB ((wr.setCell ⟨w.heap.size, p, none⟩ (.int .i64 1)).alloc (.cells #[.int .i64 kind, .string text, .slice xa ks.length xc, .int .i64 pl] 55)) w.heap.size (rowD L len p 1) := hI1.fr ((Fr.refl [] _).alloc _) (by simp)
        have hkk := hkk0.fr f1 (by simpa using HB.out)
        unfold maxLen at hkl
        clear hI hI1 hx hkk0
        have hb1 : ∀ d ∈ depths L p, d ≤ p := depths_le L p
        have HD : ∀ r : Nat, Hid ((depths L p).getD r 0 ≤ p) := fun r => getD_le hb1 r
        clear hb1
        go_wp2
        generalize (wr.setCell ⟨w.heap.size, p, none⟩ (.int .i64 1)).alloc (.cells #[.int .i64 kind, .string text, .slice xa ks.length xc, .int .i64 pl] 55) = w1 at *
        go_loopw [24] (fun j wq => ∃ q d : Nat, q ≤ ks.length ∧ j = .int .i64 q ∧ Fr [w.heap.size] w1 wq ∧ Fr [] w wq ∧ IB wq w.heap.size (rowD L len p (d : Nat)) ∧ d ≤ p + 1 ∧ Hid (kidD (depths L p) p (ks.drop q) d = kidD (depths L p) p ks 1)) (fun j _ => ks.length - (intOf j).toNat)
        case atStart => exact ⟨0, 1, Nat.zero_le _, rfl, Fr.refl _ _, fw1, hI2, by omega, rfl⟩
        case round =>
          obtain ⟨q, d, hq, rfl, fq, fqw, hIq, hd, he⟩ := hrel
          clear hI2 hc0 hfz q0 q1 q2 q3
          by_cases hql : q < ks.length
          · have hk : ks[q]? = some ks[q] := List.getElem?_eq_getElem hql
            have hdr := List.drop_eq_getElem_cons hql
            generalize ks[q] = k at hk hdr
            obtain ⟨kb, ko, rfl, hkb, hcell⟩ := (hkk.fr fq (by simpa using HB.out)) q k hk
            have HE : Hid (kidD (depths L p) p (ks.drop (q + 1)) (if 0 ≤ k ∧ k < (p : Int) then max d (1 + (depths L p).getD k.toNat 0) else d) = kidD (depths L p) p ks 1) := by unfold Hid; rw [← he.out, hdr]; rfl
            clear hk hdr he
            by_cases h1 : k < 0
            · rw [if_neg (by omega)] at HE
              have HE2 : Hid _ := HE.out
              clear HE
              go_wp2
              go_roundw
              case rel => exact ⟨q + 1, d, hql, by go_num, fq, fqw, hIq, hd, HE2⟩
              case measure => simp [intOf]; omega
            · by_cases h2 : (p : Int) ≤ k
              · rw [if_neg (by omega)] at HE
                have HE2 : Hid _ := HE.out
                clear HE
                go_wp2
                go_roundw
                case rel => exact ⟨q + 1, d, hql, by go_num, fq, fqw, hIq, hd, HE2⟩
                case measure => simp [intOf]; omega
              · obtain ⟨r, rfl⟩ := Int.eq_ofNat_of_zero_le (show 0 ≤ k by omega)
                have hr : r < p := by omega
                rw [if_pos (by omega)] at HE
                simp only [Int.toNat_natCast] at HE
                have HE2 : Hid _ := HE.out
                clear HE
                have c1 := hIq.cell rowD_at
                have c2 := hIq.cell (rowD_low hr)
                have z1 := hIq.fz p
                have hS := hIq.set p ((max d (1 + (depths L p).getD r 0) : Nat) : Int)
                rw [rowD_set] at hS
                have hD := (HD r).out
                generalize (depths L p).getD r 0 = D at *
                go_wp2
                go_region
                have ev : max (d : Int) ((D : Int) + 1) = ((max d (1 + D) : Nat) : Int) := by omega
                rw [ev]
                have hmx : max d (1 + D) ≤ p + 1 := by omega
                have gq := (fq.setCell (p := ⟨w.heap.size, p, none⟩) (.inl (by simp)) (.int .i64 ((max d (1 + D) : Nat) : Int))).drew
                have gw := (fqw.setCell (p := ⟨w.heap.size, p, none⟩) (.inr (Nat.le_refl _)) (.int .i64 ((max d (1 + D) : Nat) : Int))).drew
                have hS' := hS.fr ((Fr.refl [] _).drew) (by simp)
                clear hS c1 c2 z1
                go_wp2
                go_roundw
                case rel => exact ⟨q + 1, _, hql, by go_num, gq, gw, hS', hmx, HE2⟩
                case measure => simp [intOf]; omega
          · have HE : Hid (d = kidD (depths L p) p ks 1) := by unfold Hid; rw [← he.out, List.drop_of_length_le (by omega)]; rfl
            go_wp2
            go_roundw
            case rel =>
              refine ⟨p + 1, hlt, by go_num, fqw, fun h => ?_, fun h => ?_⟩
              · rw [← HX.out d h HE.out.symm]; exact hIq
              · rw [← HY.out d h HE.out.symm]; exact hIq
            case measure => simp [intOf]; omega
      · have hpe : p = len := by omega
        have hI := hJ hpe
        have hx : L[len - 1]? = some (L[len - 1]'(by rw [HL.out]; omega)) := List.getElem?_eq_getElem _
        have hc := hI.cell rowD_at
        go_wp2
        go_ret
        exact ⟨rfl, fw⟩
end Go.Proofs.YtnmfcaahdeddnaaGreatDoor.T5
namespace Go.Proofs.YtnmfcaahdeddnaaGreatDoor.T5
open Go.RowKit
set_option maxRecDepth 100000
set_option linter.unusedVariables false
set_option linter.unusedSimpArgs false

theorem _root_.Go.Proofs.YtnmfcaahdeddnaaGreatDoor.Fr.over {S : List Nat} {a b c : World} (h : Fr [] a b) (k : Fr S b c) (hS : ∀ i, i ∈ S → a.heap.size ≤ i) : Fr [] a c :=
  ⟨k.os.trans h.os, k.tape.trans h.tape, k.output.trans h.output, Nat.le_trans h.size k.size, fun i hi _ => (k.block i (Nat.lt_of_lt_of_le hi h.size) (fun hm => by have := hS i hm; omega)).trans (h.block i hi (by simp))⟩

/-- Whether one of the first n isn't marked. -/
def has0 (T : List Bool) (n : Nat) : Bool := (T.take n).contains false
theorem take_snocB {T : List Bool} {p : Nat} (h : p < T.length) : has0 T (p + 1) = (has0 T p || !(T.getD p false)) := by
  unfold has0
  rw [List.take_add_one, List.getElem?_eq_getElem h]
  simp only [Option.toList_some, List.contains_eq_any_beq, List.any_append, List.any_cons, List.any_nil, Bool.or_false]
  simp [List.getD_eq_getElem?_getD, h]

theorem contains_mono {T : List Bool} {p n : Nat} (h : p ≤ n) (hc : has0 T p = true) : has0 T n = true := by
  unfold has0 at *
  rw [List.contains_iff_mem] at *
  exact List.mem_of_mem_take (by rw [List.take_take, Nat.min_eq_left h]; exact hc : false ∈ (T.take n).take p)

set_option maxRecDepth 100000 in
theorem index_any (w : World) (g : Nat) (T : List Bool) (n cap : Nat) (hT : TB w g T) (hn : n ≤ T.length) (hm : n ≤ maxLen) :
    Calls Tryz.prog 86 #[.slice (some ⟨g, 0, none⟩) n cap, .bool false] w fun e w' => (∃ z : Int, e = .returned (.int .i64 z) ∧ decide (0 ≤ z) = has0 T n) ∧ w' = w := by
  unfold maxLen at hm
  have HN : Hid (n ≤ T.length) := hn
  clear hn
  go_enter Tryz.func86, Tryz.ntmps86
  go_wp2
  go_loop [8] (fun i => ∃ p : Nat, p ≤ n ∧ i = .int .i64 p ∧ Hid (has0 T p = false)) (fun i => n - (intOf i).toNat)
  case atStart => exact ⟨0, Nat.zero_le _, rfl, by unfold Hid has0; simp⟩
  case round =>
    obtain ⟨p, hp, rfl, he⟩ := hrel
    by_cases hlt : p < n
    · have hpl : p < T.length := by have := HN.out; omega
      have hc := hT.cell hpl
      have HS : Hid _ := take_snocB hpl
      clear hpl
      cases hb : T.getD p false with
      | true =>
        rw [hb] at hc
        have HR : Hid (has0 T (p + 1) = false) := by unfold Hid; rw [HS.out, he.out, hb]; rfl
        clear HS hb
        go_wp2
        go_round
        case rel => exact ⟨p + 1, hlt, by go_num, HR⟩
        case measure => simp [intOf]; omega
      | false =>
        rw [hb] at hc
        have HR : Hid (has0 T (p + 1) = true) := by unfold Hid; rw [HS.out, hb]; simp
        clear HS hb
        go_wp2
        go_ret
        exact ⟨⟨p, rfl, by rw [contains_mono hlt HR.out]; simp⟩, rfl⟩
    · have : p = n := by omega
      subst this
      go_wp2
      go_ret
      exact ⟨⟨-1, rfl, by rw [he.out]; rfl⟩, rfl⟩

set_option maxRecDepth 100000 in
theorem contains_any (w : World) (g : Nat) (T : List Bool) (n cap : Nat) (hT : TB w g T) (hn : n ≤ T.length) (hm : n ≤ maxLen) :
    Calls Tryz.prog 49 #[.slice (some ⟨g, 0, none⟩) n cap, .bool false] w fun e w' => e = .returned (.bool (has0 T n)) ∧ w' = w := by
  have C := index_any w g T n cap hT hn hm
  generalize has0 T n = R at *
  go_enter Tryz.func49, Tryz.ntmps49
  go_wp2_with fail
  refine C.mono ?_
  rintro e w' ⟨⟨z, rfl, hz⟩, rfl⟩
  have HZ : Hid _ := hz
  clear hz
  go_wp2
  go_ret
  exact ⟨congrArg (fun b => Ending.returned (Value.bool b)) HZ.out, rfl⟩

def cOut (x : Nat × Nat) : Ending := .returned (.tuple #[.int .i64 x.1, .int .i64 x.2])

theorem node_err {L : List Nd} {n : Nat} {x : Nd} {T : List Bool} {e : Nat} (h : nodeE L n x T = .error e) : e = 50 ∨ e = 52 ∨ e = 53 := by
  unfold nodeE at h
  split at h
  · cases h; simp
  · split at h
    · cases h; simp
    · split at h
      · cases h; simp
      · split at h
        · cases h; simp
        · split at h
          · cases h; simp
          · cases h

section
variable {L : List Nd} {T : List Bool}
theorem check_long (h : 50000 < L.length) : checkL L = (0, 2) := by unfold checkL; rw [if_pos h]
theorem check_err (h : ¬ 50000 < L.length) {e : Nat × Nat} (hn : nodesL L L.length = .error e) : checkL L = e := by unfold checkL; rw [if_neg h, hn]
theorem check_empty (h : L.length = 0) : checkL L = (0, 50) := by
  have : L = [] := by rw [← List.length_eq_zero_iff]; exact h
  subst this; rfl
theorem check_last (h : ¬ 50000 < L.length) (hn : nodesL L L.length = .ok T) (h0 : L.length ≠ 0) (hb : kd L ((L.length - 1 : Nat) : Int) ≠ 1 ∨ has0 T (L.length - 1) = true) : checkL L = (L.length - 1, 50) := by
  unfold checkL; rw [if_neg h, hn]; simp only; rw [if_neg h0]; exact if_pos hb
theorem check_deep (h : ¬ 50000 < L.length) (hn : nodesL L L.length = .ok T) (h0 : L.length ≠ 0) (hk : kd L ((L.length - 1 : Nat) : Int) = 1) (hb : has0 T (L.length - 1) = false) (hd : 200 < deepL L) : checkL L = (0, 51) := by
  unfold checkL; rw [if_neg h, hn]; simp only; rw [if_neg h0, if_neg (fun hh => by rcases hh with hh | hh; exact hh hk; have : has0 T (L.length - 1) = true := hh; rw [hb] at this; cases this), if_pos hd]
theorem check_ok (h : ¬ 50000 < L.length) (hn : nodesL L L.length = .ok T) (h0 : L.length ≠ 0) (hk : kd L ((L.length - 1 : Nat) : Int) = 1) (hb : has0 T (L.length - 1) = false) (hd : ¬ 200 < deepL L) : checkL L = (0, 0) := by
  unfold checkL; rw [if_neg h, hn]; simp only; rw [if_neg h0, if_neg (fun hh => by rcases hh with hh | hh; exact hh hk; have : has0 T (L.length - 1) = true := hh; rw [hb] at this; cases this), if_neg hd]
end

set_option maxRecDepth 100000 in
set_option maxHeartbeats 2000000 in
theorem check_any (B : Nat) (L : List Nd) (w : World) (a : Option Addr) (len cap : Nat) (hlen : L.length = len) (hL : NAt B w a L) (hm : len ≤ 2600000000000) (hB : B ≤ w.heap.size) (TT : Tabs w) :
    Calls Tryz.prog 23 #[.slice a len cap] w fun e w' => e = cOut (checkL L) ∧ Fr [] w w' := by
  have HL : Hid (L.length = len) := hlen
  have HB : Hid (B ≤ w.heap.size) := hB
  have HTL : Hid (7 ≤ w.heap.size) := TT.len
  have hLL := hlen
  clear hB hlen
  by_cases h0 : 50000 < len
  · have HC : Hid (checkL L = (0, 2)) := check_long (by rw [HL.out]; exact h0)
    go_enter Tryz.func23, Tryz.ntmps23
    go_wp2
    go_ret2
    exact ⟨by rw [HC.out]; rfl, Fr.refl _ _⟩
  · have HS : Hid (¬ 50000 < L.length) := by unfold Hid; rw [HL.out]; exact h0
    have hmk := make_bools (w.alloc (.map (Es 30) 30)) len (by omega)
    simp only [World.size_alloc] at hmk
    have M0 : WM ((w.alloc (.map (Es 30) 30)).alloc (.cells ((List.replicate len false).map Value.bool).toArray 4)) w.heap.size := by
      have := WM.fr (w := w.alloc (.map (Es 30) 30)) (g := w.heap.size) (heap_alloc_new w _) ((Fr.refl [] _).alloc (.cells ((List.replicate len false).map Value.bool).toArray 4)) (by simp)
      exact this
    have T0 : TB ((w.alloc (.map (Es 30) 30)).alloc (.cells ((List.replicate len false).map Value.bool).toArray 4)) (w.heap.size + 1) (List.replicate len false) := by
      have := heap_alloc_new (w.alloc (.map (Es 30) 30)) (.cells ((List.replicate len false).map Value.bool).toArray 4)
      simp only [World.size_alloc] at this
      exact this
    have f0 : Fr [] w ((w.alloc (.map (Es 30) 30)).alloc (.cells ((List.replicate len false).map Value.bool).toArray 4)) := ((Fr.refl _ _).alloc _).alloc _
    generalize hw0 : (w.alloc (.map (Es 30) 30)).alloc (.cells ((List.replicate len false).map Value.bool).toArray 4) = w0 at *
    clear hw0
    go_enter Tryz.func23, Tryz.ntmps23
    go_wp2_with (go_at_call 47; refine (wants_any _).mono ?_; rintro e w' ⟨rfl, rfl⟩)
    go_loopw [18] (fun i wr => ∃ p : Nat, p ≤ len ∧ i = .int .i64 p ∧ Fr [] w wr ∧ WM wr w.heap.size ∧ ∃ T : List Bool, TB wr (w.heap.size + 1) T ∧ T.length = len ∧ Hid (nodesL L p = .ok T)) (fun i _ => len - (intOf i).toNat)
    case atStart => exact ⟨0, Nat.zero_le _, rfl, f0, M0, _, T0, by simp, by unfold Hid; rw [nodesL, HL.out]⟩
    case round =>
      obtain ⟨p, hp, rfl, fw, hM, T, hT, hTl, he⟩ := hrel
      clear M0 T0 hmk
      have HTl : Hid (T.length = len) := hTl
      by_cases hlt : p < len
      · have hx : L[p]? = some (L[p]'(by rw [HL.out]; exact hlt)) := List.getElem?_eq_getElem _
        generalize L[p]'(by rw [HL.out]; exact hlt) = x at hx
        have hsz := fw.size
        have C := checkNode_any B L wr a len cap hLL (hL.fr fw (by simp)) (by unfold maxLen; omega) (by have := HB.out; omega) p x hx w.heap.size (w.heap.size + 1) T len hM hT hTl (by have := HB.out; omega) (TT.fr fw (by simp)) (by have := HTL.out; omega) (by omega)
        have HX : Hid (L[p]? = some x) := hx
        clear hx hTl hT hsz
        cases hn : nodeE L p x T with
        | error er =>
          have HR : Hid (nodesL L L.length = .error (p, er)) := nodes_err he.out HX.out hn
          rw [hn] at C
          have her := node_err hn
          have hne : ((er : Int) == 0) = false := beq_int_false (by omega)
          clear hn her
          go_wp2_with (go_at_call 48; refine C.mono ?_; rintro e w' ⟨he2, f2, _⟩; rw [errOf] at he2; subst he2)
          go_ret2
          exact ⟨by rw [check_err HS.out HR.out]; rfl, fw.over f2 (by simp)⟩
        | ok T' =>
          have HR : Hid (nodesL L (p + 1) = .ok T') := nodes_ok he.out HX.out hn
          rw [hn] at C
          have hl' := node_length hn
          have HTl' : Hid (T'.length = len) := by unfold Hid; rw [hl', HTl.out]
          clear hn hl'
          go_wp2_with (go_at_call 48; refine C.mono ?_; rintro e w' ⟨he2, f2, hT2⟩; rw [errOf] at he2; subst he2)
          go_roundw
          case rel => exact ⟨p + 1, hlt, by go_num, fw.over f2 (by simp), hM.fr f2 (by simp), T', hT2 T' rfl, HTl'.out, HR⟩
          case measure => simp [intOf]; omega
      · have hpe : p = len := by omega
        subst hpe
        have HN : Hid (nodesL L L.length = .ok T) := by unfold Hid; rw [HL.out]; exact he.out
        clear he
        by_cases hz : p = 0
        · subst hz
          have HR : Hid (checkL L = (0, 50)) := check_empty HL.out
          go_wp2
          go_ret2
          exact ⟨by rw [HR.out]; rfl, fw⟩
        · have HZ : Hid (L.length ≠ 0) := by unfold Hid; rw [HL.out]; exact hz
          have hx : L[p - 1]? = some (L[p - 1]'(by rw [HL.out]; omega)) := List.getElem?_eq_getElem _
          generalize L[p - 1]'(by rw [HL.out]; omega) = x at hx
          have HK : Hid (kd L ((L.length - 1 : Nat) : Int) = x.kind) := by unfold Hid; rw [HL.out]; exact kd_at hx
          obtain ⟨b, o, rfl, hb, hN⟩ := (hL.fr fw (by simp)) (p - 1) x hx
          have c0 := hN.c0
          have hp1 : (p : Int) - 1 = ((p - 1 : Nat) : Int) := by omega
          have hsz := fw.size
          clear hN hx
          by_cases hk : x.kind = 1
          · have CC := contains_any wr (w.heap.size + 1) T (p - 1) p hT (by rw [hTl]; omega) (by unfold maxLen; omega)
            have CD := fun w' (f : Fr [] w w') => deep_any B L w' (some ⟨b, o, none⟩) p cap hLL (hL.fr f (by simp)) hm (by have := f.size; have := HB.out; omega)
            have HK1 : Hid (kd L ((L.length - 1 : Nat) : Int) = 1) := by unfold Hid; rw [HK.out, hk]
            have HQ : Hid (p = L.length) := HL.out.symm
            go_wp2_with fail
            refine CC.mono ?_
            rintro e w' ⟨rfl, rfl⟩
            cases hc : has0 T (p - 1) with
            | true =>
              have HR : Hid (checkL L = (p - 1, 50)) := by unfold Hid; rw [check_last HS.out HN.out HZ.out (.inr (by rw [HL.out]; exact hc)), HL.out]
              clear CD hc CC
              go_wp2
              go_ret2
              exact ⟨by rw [HR.out]; rfl, fw⟩
            | false =>
              have HH : Hid (has0 T (L.length - 1) = false) := by unfold Hid; rw [HL.out]; exact hc
              have hdl : deepL L ≤ p := by have := deepL_le L; rw [HL.out] at this; exact this
              clear hc CC
              go_wp2_with fail
              refine (CD _ fw).mono ?_
              rintro e w2 ⟨rfl, f2⟩
              by_cases hd : 200 < deepL L
              · have HR : Hid (checkL L = (0, 51)) := check_deep HS.out HN.out HZ.out HK1.out HH.out hd
                clear CD
                generalize deepL L = DD at *
                go_wp2
                go_ret2
                exact ⟨by rw [HR.out]; rfl, fw.trans f2⟩
              · have HR : Hid (checkL L = (0, 0)) := check_ok HS.out HN.out HZ.out HK1.out HH.out hd
                clear CD
                generalize deepL L = DD at *
                go_wp2
                go_ret2
                exact ⟨by rw [HR.out]; rfl, fw.trans f2⟩
          · have hk' : (x.kind == 1) = false := by simp [hk]
            have HR : Hid (checkL L = (p - 1, 50)) := by unfold Hid; rw [check_last HS.out HN.out HZ.out (.inl (by rw [HK.out]; exact hk)), HL.out]
            clear HK
            go_wp2
            all_goals first | (exfalso; omega) | skip
            go_ret2
            exact ⟨by rw [HR.out]; rfl, fw⟩
end Go.Proofs.YtnmfcaahdeddnaaGreatDoor.T5
namespace Go.Proofs.YtnmfcaahdeddnaaGreatDoor.T5
open Go.RowKit
set_option maxRecDepth 100000
set_option linter.unusedVariables false
set_option linter.unusedSimpArgs false

theorem binAt (k : Nat) (h : k < 14) : (binaries.map fun l => Value.string ⟨l.toArray⟩)[k]? = some (.string ⟨(binaries.getD k []).toArray⟩) := by
  have hl : binaries.length = 14 := rfl
  rw [List.getElem?_map, List.getElem?_eq_getElem (by omega)]
  simp [List.getD, List.getElem?_eq_getElem (l := binaries) (i := k) (by omega)]
theorem binL_toList (s : ByteArray) : binaries.contains s.toList = binL s := by rw [Lib.toList_data]; rfl

set_option maxRecDepth 100000 in
theorem Operator_any (s : ByteArray) (w : World) :
    Calls Tryz.prog 88 #[.string s] w fun e w' => e = .returned (.bool (binL s)) ∧ Fr [] w w' := by
  go_enter Tryz.func88, Tryz.ntmps88
  go_wp2
  generalize hw1 : w.alloc _ = w1
  have hF : Fr [] w w1 := by rw [← hw1]; exact (Fr.refl _ _).alloc _
  have hB : w1.heap[w.heap.size]? = some (.cells (binaries.map fun l => Value.string ⟨l.toArray⟩).toArray 9) := by rw [← hw1]; exact heap_alloc_new w _
  have hC : ∀ k, k < 14 → w1.cell? ⟨w.heap.size, k, none⟩ = some (.string ⟨(binaries.getD k []).toArray⟩) := fun k hk => by
    unfold World.cell?
    rw [hB]
    simpa using binAt k hk
  clear hw1 hB
  generalize w.heap.size = g at hC ⊢
  go_loop [7] (fun i => ∃ k : Nat, k ≤ 14 ∧ i = .int .i64 k ∧ ∀ j, j < k → s.toList ≠ binaries.getD j []) (fun i => 14 - (intOf i).toNat)
  case atStart => exact ⟨0, by omega, rfl, fun j hj => by omega⟩
  case round =>
    obtain ⟨k, hk, rfl, hno⟩ := hrel
    have hno' : Hid (∀ j, j < k → s.toList ≠ binaries.getD j []) := hno
    clear hno
    by_cases hlt : k < 14
    · have hlt' : (k : Int) < 14 := by omega
      have hc := hC k hlt
      clear hC
      have hq : (s.toList == (⟨(binaries.getD k []).toArray⟩ : ByteArray).toList) = decide (s.toList = binaries.getD k []) := by
        rw [Lib.toList_data (⟨(binaries.getD k []).toArray⟩ : ByteArray), Bool.eq_iff_iff]
        simp
      by_cases he : s.toList = binaries.getD k []
      · have hq' : (s.toList == (⟨(binaries.getD k []).toArray⟩ : ByteArray).toList) = true := by rw [hq]; exact decide_eq_true he
        have hw : binL s = true := by
          rw [← binL_toList, he]
          simp only [List.contains_iff_mem]
          have : k < binaries.length := hlt
          simp [List.getD, List.getElem?_eq_getElem this]
        have HW : Hid (binL s = true) := hw
        clear hw hq he
        generalize (⟨(binaries.getD k []).toArray⟩ : ByteArray) = x at *
        go_wp2
        go_ret
        refine ⟨?_, hF⟩; rw [HW.out]; rfl
      · have hq' : (s.toList == (⟨(binaries.getD k []).toArray⟩ : ByteArray).toList) = false := by rw [hq]; exact decide_eq_false he
        have HE : Hid (¬ s.toList = binaries.getD k []) := he
        clear hq he
        generalize (⟨(binaries.getD k []).toArray⟩ : ByteArray) = x at *
        go_wp2
        go_round
        case rel => exact ⟨k + 1, hlt, by go_num, fun j hj => by
          by_cases hjk : j = k
          · rw [hjk]; exact HE.out
          · exact hno'.out j (by omega)⟩
        case measure => simp [intOf]; omega
    · have hlt' : ¬ (k : Int) < 14 := by omega
      have hw : binL s = false := by
        have hk' : k = 14 := by omega
        subst hk'
        rw [← binL_toList, Bool.eq_false_iff]
        intro h
        obtain ⟨j, hj, e⟩ := List.getElem_of_mem (List.contains_iff_mem.1 h)
        refine hno'.out j hj ?_
        rw [← e]
        simp [List.getD, List.getElem?_eq_getElem hj]
      have HW : Hid (binL s = false) := hw
      clear hw
      go_wp2
      go_ret
      refine ⟨?_, hF⟩; rw [HW.out]; rfl

set_option maxRecDepth 100000 in
theorem Expr_any (k : Int) (w : World) : Calls Tryz.prog 92 #[.int .i64 k] w fun e w' => e = .returned (.bool (isEx k)) ∧ w' = w := by
  have hI : Hid (isEx k = decide (15 ≤ k ∧ k ≤ 30)) := rfl
  generalize isEx k = R at *
  by_cases h1 : 15 ≤ k
  · by_cases h2 : k ≤ 30
    · have HR : Hid (R = true) := by unfold Hid; rw [hI.out]; simp; omega
      go_enter Tryz.func92, Tryz.ntmps92
      go_wp2
      go_ret
      exact ⟨by rw [HR.out]; rfl, rfl⟩
    · have HR : Hid (R = false) := by unfold Hid; rw [hI.out]; simp; omega
      go_enter Tryz.func92, Tryz.ntmps92
      go_wp2
      go_ret
      exact ⟨by rw [HR.out]; rfl, rfl⟩
  · have HR : Hid (R = false) := by unfold Hid; rw [hI.out]; simp; omega
    go_enter Tryz.func92, Tryz.ntmps92
    go_wp2
    go_ret
    exact ⟨by rw [HR.out]; rfl, rfl⟩
set_option maxRecDepth 100000 in
theorem Stmt_any (k : Int) (w : World) : Calls Tryz.prog 90 #[.int .i64 k] w fun e w' => e = .returned (.bool (isSt k)) ∧ w' = w := by
  have hI : Hid (isSt k = decide (5 ≤ k ∧ k ≤ 13)) := rfl
  generalize isSt k = R at *
  by_cases h1 : 5 ≤ k
  · by_cases h2 : k ≤ 13
    · have HR : Hid (R = true) := by unfold Hid; rw [hI.out]; simp; omega
      go_enter Tryz.func90, Tryz.ntmps90
      go_wp2
      go_ret
      exact ⟨by rw [HR.out]; rfl, rfl⟩
    · have HR : Hid (R = false) := by unfold Hid; rw [hI.out]; simp; omega
      go_enter Tryz.func90, Tryz.ntmps90
      go_wp2
      go_ret
      exact ⟨by rw [HR.out]; rfl, rfl⟩
  · have HR : Hid (R = false) := by unfold Hid; rw [hI.out]; simp; omega
    go_enter Tryz.func90, Tryz.ntmps90
    go_wp2
    go_ret
    exact ⟨by rw [HR.out]; rfl, rfl⟩

def allE (f : Int → Bool) (ks : List Int) : Bool := ks.all f
theorem allE_at {f : Int → Bool} {K : List Int} {p : Nat} {q : Int} (h : K[p]? = some q) : allE f (K.drop p) = (f q && allE f (K.drop (p + 1))) := by
  obtain ⟨hl, he⟩ := List.getElem?_eq_some_iff.1 h
  rw [List.drop_eq_getElem_cons hl, he]
  rfl

set_option maxRecDepth 100000 in
theorem all_any (B : Nat) (w : World) (K : List Int) (a : Option Addr) (m c : Nat) (k : Int) (hl : K.length = m) (hm : m ≤ maxLen) (hK : KAt B w a K) :
    Calls Tryz.prog 89 #[.slice a m c, .int .i64 k] w fun e w' => e = .returned (.bool (allE (· == k) K)) ∧ w' = w := by
  unfold maxLen at hm
  have HL : Hid (K.length = m) := hl
  clear hl
  go_enter Tryz.func89, Tryz.ntmps89
  go_wp2
  go_loop [9] (fun i => ∃ p : Nat, p ≤ m ∧ i = .int .i64 p ∧ Hid (allE (· == k) (K.drop p) = allE (· == k) K)) (fun i => m - (intOf i).toNat)
  case atStart => exact ⟨0, Nat.zero_le _, rfl, rfl⟩
  case round =>
    obtain ⟨p, hp, rfl, he⟩ := hrel
    by_cases hlt : p < m
    · have hx : K[p]? = some (K[p]'(by rw [HL.out]; exact hlt)) := List.getElem?_eq_getElem _
      generalize K[p]'(by rw [HL.out]; exact hlt) = q at hx
      obtain ⟨b, o, rfl, hb, hc⟩ := hK p q hx
      have HS : Hid (allE (· == k) (K.drop p) = ((q == k) && allE (· == k) (K.drop (p + 1)))) := allE_at hx
      clear hx hK
      by_cases hq : q = k
      · have HR : Hid (allE (· == k) (K.drop (p + 1)) = allE (· == k) K) := by unfold Hid; rw [← he.out, HS.out, hq]; simp
        clear HS
        subst hq
        go_wp2
        go_round
        case rel => exact ⟨p + 1, hlt, by go_num, HR⟩
        case measure => simp [intOf]; omega
      · have hq' : (q == k) = false := by simp [hq]
        have HR : Hid (allE (· == k) K = false) := by unfold Hid; rw [← he.out, HS.out, hq', Bool.false_and]
        clear HS
        go_wp2
        all_goals first | (exfalso; omega) | skip
        go_ret
        exact ⟨by rw [HR.out]; rfl, rfl⟩
    · have HE : Hid (allE (· == k) K = true) := by
        unfold Hid
        rw [← he.out, List.drop_of_length_le (by rw [HL.out]; omega)]
        rfl
      go_wp2
      go_ret
      exact ⟨by rw [HE.out]; rfl, rfl⟩

set_option maxRecDepth 100000 in
theorem exprs_any (B : Nat) (w : World) (K : List Int) (a : Option Addr) (m c n : Nat) (hl : K.length = m) (hm : m ≤ maxLen) (hn : n ≤ maxLen) (hK : KAt B w a K) :
    Calls Tryz.prog 91 #[.slice a m c, .int .i64 n] w fun e w' => e = .returned (.bool (allE isEx K && decide (m = n))) ∧ w' = w := by
  unfold maxLen at hm hn
  have HL : Hid (K.length = m) := hl
  have HD : Hid (decide (m = n) = ((m : Int) == (n : Int))) := by unfold Hid; rw [Bool.eq_iff_iff]; simp; omega
  rw [HD.out]
  clear hl
  go_enter Tryz.func91, Tryz.ntmps91
  go_wp2
  go_loop [9] (fun i => ∃ p : Nat, p ≤ m ∧ i = .int .i64 p ∧ Hid (allE isEx (K.drop p) = allE isEx K)) (fun i => m - (intOf i).toNat)
  case atStart => exact ⟨0, Nat.zero_le _, rfl, rfl⟩
  case round =>
    obtain ⟨p, hp, rfl, he⟩ := hrel
    by_cases hlt : p < m
    · have hx : K[p]? = some (K[p]'(by rw [HL.out]; exact hlt)) := List.getElem?_eq_getElem _
      generalize K[p]'(by rw [HL.out]; exact hlt) = q at hx
      obtain ⟨b, o, rfl, hb, hc⟩ := hK p q hx
      have HS : Hid (allE isEx (K.drop p) = (isEx q && allE isEx (K.drop (p + 1)))) := allE_at hx
      have C := fun w => Expr_any q w
      clear hx hK
      cases hq : isEx q with
      | true =>
        rw [hq] at C
        have HR : Hid (allE isEx (K.drop (p + 1)) = allE isEx K) := by unfold Hid; rw [← he.out, HS.out, hq]; simp
        clear HS
        go_wp2_with (go_at_call 92; refine (C _).mono ?_; rintro e w' ⟨rfl, rfl⟩)
        go_round
        case rel => exact ⟨p + 1, hlt, by go_num, HR⟩
        case measure => simp [intOf]; omega
      | false =>
        rw [hq] at C
        have HR : Hid (allE isEx K = false) := by unfold Hid; rw [← he.out, HS.out, hq, Bool.false_and]
        clear HS
        go_wp2_with (go_at_call 92; refine (C _).mono ?_; rintro e w' ⟨rfl, rfl⟩)
        go_ret
        exact ⟨by rw [HR.out]; rfl, rfl⟩
    · have HE : Hid (allE isEx K = true) := by
        unfold Hid
        rw [← he.out, List.drop_of_length_le (by rw [HL.out]; omega)]
        rfl
      go_wp2
      go_ret
      exact ⟨by rw [HE.out]; rfl, rfl⟩
end Go.Proofs.YtnmfcaahdeddnaaGreatDoor.T5
namespace Go.Proofs.YtnmfcaahdeddnaaGreatDoor.T5
open Go.RowKit
set_option maxRecDepth 100000
set_option linter.unusedVariables false
set_option linter.unusedSimpArgs false

theorem dec_ref {s : ByteArray} {n : Nat} (h : num s = some n) (hp : 0 < s.size) : decL s = (decide (48 ≤ s[0].toNat) && decide (s[0].toNat ≤ 57) && (decide (s.size = 1) || !decide (s[0].toNat = 48))) := by
  obtain ⟨l, hl⟩ := head_of hp
  have hsz : s.size = l.length + 1 := by rw [Lib.size_eq, hl]; rfl
  have e2 : s.data.toList.headD 0 = s[0] := by rw [hl]; rfl
  have e3 : (s.data.toList = [48]) ↔ (s[0].toNat = 48 ∧ l.length = 0) := by
    rw [hl]
    constructor
    · intro e
      simp at e
      exact ⟨by rw [e.1]; rfl, by rw [e.2]; rfl⟩
    · rintro ⟨a, b⟩
      have : l = [] := by rw [← List.length_eq_zero_iff]; exact b
      subst this
      have : s[0] = 48 := by apply UInt8.toNat_inj.1; rw [a]; rfl
      rw [this]
  unfold decL
  rw [h, e2, Bool.eq_iff_iff]
  simp only [Option.isSome_some, Bool.true_and, Bool.or_eq_true, decide_eq_true_eq, Bool.and_eq_true, Bool.not_eq_true', decide_eq_false_iff_not, e3]
  omega

set_option maxRecDepth 100000 in
set_option maxHeartbeats 1000000 in
theorem rtext_any (x : Nd) (w : World) (hs : x.text.size ≤ maxLen) (t : Nat) (ls : List UInt8) (hw : wantL x.kind = some (t, ls)) :
    Calls Tryz.prog 50 #[.agg #[.int .i64 x.kind, .string x.text, .slice x.a x.ks.length x.c, .int .i64 x.pl]] w fun e w' => e = .returned (.bool (textL t x.text)) ∧ Fr [] w w' := by
  obtain ⟨k, s, a, c, ks, pl⟩ := x
  simp only at hs hw ⊢
  have f0 : ∀ o, Fr [] w (w.alloc o) := fun o => (Fr.refl _ _).alloc _
  have hE : s.toList.isEmpty = noneL s := by rw [Lib.toList_data]; rfl
  have CN := fun w => nameR_any s w hs
  have CO := fun w => Operator_any s w
  have CM := fun w => numberR_any s w hs
  have hk : 1 ≤ k ∧ k ≤ 30 := by
    refine Decidable.byContradiction fun hn => ?_
    rw [lookup_want k (by omega)] at hw
    cases hw
  by_cases h1 : k = 2 ∨ k = 3 ∨ k = 5 ∨ k = 17 ∨ k = 20 ∨ k = 22 ∨ k = 23
  · have ht : t = 1 := by
      rcases h1 with rfl | rfl | rfl | rfl | rfl | rfl | rfl <;> exact (congrArg Prod.fst (Option.some.inj hw)).symm
    subst ht
    clear hw hk hE CO CM
    rcases h1 with rfl | rfl | rfl | rfl | rfl | rfl | rfl
    all_goals
      go_enter Tryz.func50, Tryz.ntmps50
      go_wp2_with (go_at_call 87; refine (CN _).mono ?_; rintro e w' ⟨rfl, f1⟩)
      go_ret
      exact ⟨rfl, (f0 _).trans f1⟩
  · by_cases h2 : k = 15
    · subst h2
      have ht : t = 2 := (congrArg Prod.fst (Option.some.inj hw)).symm
      subst ht
      clear hw hk hE CO CN h1
      cases hn : num s with
      | none =>
        have HR : Hid (decL s = false) := by unfold Hid decL; rw [hn]; rfl
        rw [hn] at CM
        go_enter Tryz.func50, Tryz.ntmps50
        go_wp2_with (go_at_call 59; refine (CM _).mono ?_; rintro e w' ⟨he, rfl⟩; rw [nOut] at he; subst he)
        go_ret
        exact ⟨by show _ = Ending.returned (.bool (decL s)); rw [HR.out]; rfl, f0 _⟩
      | some n =>
        have hp := num_pos hn
        have HD : Hid _ := dec_ref hn hp
        rw [hn] at CM
        have hb := byte_lt s[0]
        clear hn
        unfold maxLen at hs
        by_cases q1 : 48 ≤ s[0].toNat
        · by_cases q2 : s[0].toNat ≤ 57
          · by_cases q3 : s.size = 1
            · have HR : Hid (decL s = true) := by unfold Hid; rw [HD.out]; simp [q1, q2, q3]
              have q3' : ((s.size : Int) == 1) = true := by simp; omega
              clear HD
              go_enter Tryz.func50, Tryz.ntmps50
              go_wp2_with (go_at_call 59; refine (CM _).mono ?_; rintro e w' ⟨he, rfl⟩; rw [nOut] at he; subst he)
              go_ret
              exact ⟨by show _ = Ending.returned (.bool (decL s)); rw [HR.out]; rfl, f0 _⟩
            · have q3' : ((s.size : Int) == 1) = false := beq_int_false (by omega)
              by_cases q4 : s[0].toNat = 48
              · have HR : Hid (decL s = false) := by unfold Hid; rw [HD.out]; simp [q3, q4]
                clear HD
                have q4' : ((s[0].toNat : Int) == 48) = true := by simp; omega
                go_enter Tryz.func50, Tryz.ntmps50
                go_wp2_with (go_at_call 59; refine (CM _).mono ?_; rintro e w' ⟨he, rfl⟩; rw [nOut] at he; subst he)
                go_ret
                exact ⟨by show _ = Ending.returned (.bool (decL s)); rw [HR.out]; rfl, f0 _⟩
              · have HR : Hid (decL s = true) := by unfold Hid; rw [HD.out]; simp [q1, q2, q4]
                clear HD
                have q4' : ((s[0].toNat : Int) == 48) = false := beq_int_false (by omega)
                go_enter Tryz.func50, Tryz.ntmps50
                go_wp2_with (go_at_call 59; refine (CM _).mono ?_; rintro e w' ⟨he, rfl⟩; rw [nOut] at he; subst he)
                all_goals first | (exfalso; omega) | skip
                go_ret
                exact ⟨congrArg (fun b => Ending.returned (Value.bool b)) (show ((s[0].toNat : Int) != 48) = decL s by rw [HR.out]; simp only [bne, q4', Bool.not_false]), f0 _⟩
          · have HR : Hid (decL s = false) := by unfold Hid; rw [HD.out]; simp [q2]
            clear HD
            go_enter Tryz.func50, Tryz.ntmps50
            go_wp2_with (go_at_call 59; refine (CM _).mono ?_; rintro e w' ⟨he, rfl⟩; rw [nOut] at he; subst he)
            go_ret
            exact ⟨by show _ = Ending.returned (.bool (decL s)); rw [HR.out]; rfl, f0 _⟩
        · have HR : Hid (decL s = false) := by unfold Hid; rw [HD.out]; simp [q1]
          clear HD
          go_enter Tryz.func50, Tryz.ntmps50
          go_wp2_with (go_at_call 59; refine (CM _).mono ?_; rintro e w' ⟨he, rfl⟩; rw [nOut] at he; subst he)
          go_ret
          exact ⟨by show _ = Ending.returned (.bool (decL s)); rw [HR.out]; rfl, f0 _⟩
    · by_cases h3 : k = 18
      · subst h3
        have ht : t = 3 := (congrArg Prod.fst (Option.some.inj hw)).symm
        subst ht
        have hu := un_toList s
        have HT : Hid (textL 3 s = unL s) := rfl
        rw [HT.out]
        clear hw hk hE CO CN CM h1 h2 HT
        generalize unL s = R at hu ⊢
        go_enter Tryz.func50, Tryz.ntmps50
        go_wp2
        all_goals go_ret
        all_goals refine ⟨congrArg (fun b => Ending.returned (Value.bool b)) ?_, f0 _⟩
        all_goals first | (rw [hu, Bool.eq_iff_iff]; simp [unaries, or_assoc]; done) | (simp_all [unaries]; done)
      · by_cases h4 : k = 19
        · subst h4
          have ht : t = 4 := (congrArg Prod.fst (Option.some.inj hw)).symm
          subst ht
          clear hw hk hE CN CM h1 h2 h3
          go_enter Tryz.func50, Tryz.ntmps50
          go_wp2_with (go_at_call 88; refine (CO _).mono ?_; rintro e w' ⟨rfl, f1⟩)
          go_ret
          exact ⟨rfl, (f0 _).trans f1⟩
        · have hc : k = 1 ∨ k = 4 ∨ k = 6 ∨ k = 7 ∨ k = 8 ∨ k = 9 ∨ k = 10 ∨ k = 11 ∨ k = 12 ∨ k = 13 ∨ k = 14 ∨ k = 16 ∨ k = 21 ∨ k = 24 ∨ k = 25 ∨ k = 26 ∨ k = 27 ∨ k = 28 ∨ k = 29 ∨ k = 30 := by omega
          have ht : t = 0 := by
            rcases hc with rfl | rfl | rfl | rfl | rfl | rfl | rfl | rfl | rfl | rfl | rfl | rfl | rfl | rfl | rfl | rfl | rfl | rfl | rfl | rfl <;> exact (congrArg Prod.fst (Option.some.inj hw)).symm
          subst ht
          have b2 : (k == 2) = false := by simp; omega
          have b3 : (k == 3) = false := by simp; omega
          have b5 : (k == 5) = false := by simp; omega
          have b17 : (k == 17) = false := by simp; omega
          have b20 : (k == 20) = false := by simp; omega
          have b22 : (k == 22) = false := by simp; omega
          have b23 : (k == 23) = false := by simp; omega
          have b15 : (k == 15) = false := by simp; omega
          have b18 : (k == 18) = false := by simp; omega
          have b19 : (k == 19) = false := by simp; omega
          clear hw hk CN CM CO h1 h2 h3 h4 hc
          go_enter Tryz.func50, Tryz.ntmps50
          go_wp2
          go_ret
          exact ⟨congrArg (fun b => Ending.returned (Value.bool b)) (by first | rfl | exact hE), f0 _⟩
end Go.Proofs.YtnmfcaahdeddnaaGreatDoor.T5
namespace Go.Proofs.YtnmfcaahdeddnaaGreatDoor.T5
open Go.RowKit
set_option maxRecDepth 100000
set_option linter.unusedVariables false
set_option linter.unusedSimpArgs false

theorem len_cases {K : List Int} : (K.length = 0 ∧ K = []) ∨ ∃ q r, K = q :: r := by
  cases K with
  | nil => exact .inl ⟨rfl, rfl⟩
  | cons q r => exact .inr ⟨q, r, rfl⟩

section
variable {B : Nat} {w : World} {K : List Int} {a : Option Addr} {m c : Nat}

set_option maxRecDepth 100000 in
set_option maxHeartbeats 1000000 in
theorem shape_prog (hl : K.length = m) (hm : m ≤ maxLen) (hK : KAt B w a K) :
    Calls Tryz.prog 51 #[.int .i64 1, .slice a m c] w fun e w' => e = .returned (.bool (shapeL 1 K)) ∧ w' = w := by
  have HS : Hid (shapeL 1 K = allE (fun k => k == 2 || k == 3) K) := rfl
  rw [HS.out]
  unfold maxLen at hm
  have HL : Hid (K.length = m) := hl
  clear hl HS
  go_enter Tryz.func51, Tryz.ntmps51
  go_wp2
  go_loop [17] (fun i => ∃ p : Nat, p ≤ m ∧ i = .int .i64 p ∧ Hid (allE (fun k => k == 2 || k == 3) (K.drop p) = allE (fun k => k == 2 || k == 3) K)) (fun i => m - (intOf i).toNat)
  case atStart => exact ⟨0, Nat.zero_le _, rfl, rfl⟩
  case round =>
    obtain ⟨p, hp, rfl, he⟩ := hrel
    by_cases hlt : p < m
    · have hx : K[p]? = some (K[p]'(by rw [HL.out]; exact hlt)) := List.getElem?_eq_getElem _
      generalize K[p]'(by rw [HL.out]; exact hlt) = q at hx
      obtain ⟨b, o, rfl, hb, hc⟩ := hK p q hx
      have HS : Hid (allE (fun k => k == 2 || k == 3) (K.drop p) = ((q == 2 || q == 3) && allE (fun k => k == 2 || k == 3) (K.drop (p + 1)))) := allE_at hx
      clear hx hK
      by_cases h2 : q = 2
      · subst h2
        have HR : Hid (allE (fun k => k == 2 || k == 3) (K.drop (p + 1)) = allE (fun k => k == 2 || k == 3) K) := by unfold Hid; rw [← he.out, HS.out]; simp
        clear HS
        go_wp2
        go_round
        case rel => exact ⟨p + 1, hlt, by go_num, HR⟩
        case measure => simp [intOf]; omega
      · by_cases h3 : q = 3
        · subst h3
          have HR : Hid (allE (fun k => k == 2 || k == 3) (K.drop (p + 1)) = allE (fun k => k == 2 || k == 3) K) := by unfold Hid; rw [← he.out, HS.out]; simp
          clear HS h2
          go_wp2
          all_goals
            go_round
            case rel => exact ⟨p + 1, hlt, by go_num, HR⟩
            case measure => simp [intOf]; omega
        · have h2' : (q == 2) = false := by simp [h2]
          have h3' : (q == 3) = false := by simp [h3]
          have HR : Hid (allE (fun k => k == 2 || k == 3) K = false) := by unfold Hid; rw [← he.out, HS.out, h2', h3']; rfl
          clear HS
          have h2n : (q != 2) = true := by simp [h2]
          have h3n : (q != 3) = true := by simp [h3]
          go_wp2
          all_goals first | (exfalso; omega) | (exfalso; simp_all; done) | skip
          go_ret
          exact ⟨by rw [HR.out]; rfl, rfl⟩
    · have HE : Hid (allE (fun k => k == 2 || k == 3) K = true) := by
        unfold Hid
        rw [← he.out, List.drop_of_length_le (by rw [HL.out]; omega)]
        rfl
      go_wp2
      go_ret
      exact ⟨by rw [HE.out]; rfl, rfl⟩

set_option maxRecDepth 100000 in
set_option maxHeartbeats 1000000 in
theorem shape_block (hl : K.length = m) (hm : m ≤ maxLen) (hK : KAt B w a K) :
    Calls Tryz.prog 51 #[.int .i64 4, .slice a m c] w fun e w' => e = .returned (.bool (shapeL 4 K)) ∧ w' = w := by
  have HS : Hid (shapeL 4 K = allE isSt K) := rfl
  rw [HS.out]
  unfold maxLen at hm
  have HL : Hid (K.length = m) := hl
  clear hl HS
  go_enter Tryz.func51, Tryz.ntmps51
  go_wp2
  go_loop [56] (fun i => ∃ p : Nat, p ≤ m ∧ i = .int .i64 p ∧ Hid (allE isSt (K.drop p) = allE isSt K)) (fun i => m - (intOf i).toNat)
  case atStart => exact ⟨0, Nat.zero_le _, rfl, rfl⟩
  case round =>
    obtain ⟨p, hp, rfl, he⟩ := hrel
    by_cases hlt : p < m
    · have hx : K[p]? = some (K[p]'(by rw [HL.out]; exact hlt)) := List.getElem?_eq_getElem _
      generalize K[p]'(by rw [HL.out]; exact hlt) = q at hx
      obtain ⟨b, o, rfl, hb, hc⟩ := hK p q hx
      have HS : Hid (allE isSt (K.drop p) = (isSt q && allE isSt (K.drop (p + 1)))) := allE_at hx
      have C := fun w => Stmt_any q w
      clear hx hK
      cases hq : isSt q with
      | true =>
        rw [hq] at C
        have HR : Hid (allE isSt (K.drop (p + 1)) = allE isSt K) := by unfold Hid; rw [← he.out, HS.out, hq]; simp
        clear HS
        go_wp2_with (go_at_call 90; refine (C _).mono ?_; rintro e w' ⟨rfl, rfl⟩)
        go_round
        case rel => exact ⟨p + 1, hlt, by go_num, HR⟩
        case measure => simp [intOf]; omega
      | false =>
        rw [hq] at C
        have HR : Hid (allE isSt K = false) := by unfold Hid; rw [← he.out, HS.out, hq, Bool.false_and]
        clear HS
        go_wp2_with (go_at_call 90; refine (C _).mono ?_; rintro e w' ⟨rfl, rfl⟩)
        go_ret
        exact ⟨by rw [HR.out]; rfl, rfl⟩
    · have HE : Hid (allE isSt K = true) := by
        unfold Hid
        rw [← he.out, List.drop_of_length_le (by rw [HL.out]; omega)]
        rfl
      go_wp2
      go_ret
      exact ⟨by rw [HE.out]; rfl, rfl⟩

set_option maxRecDepth 100000 in
set_option maxHeartbeats 1000000 in
theorem shape_names (k : Int) (hk : k = 2 ∨ k = 13) (hl : K.length = m) (hm : m ≤ maxLen) (hK : KAt B w a K) :
    Calls Tryz.prog 51 #[.int .i64 k, .slice a m c] w fun e w' => e = .returned (.bool (shapeL k K)) ∧ w' = w := by
  have C := fun c => all_any B w K a m c 17 hl hm hK
  have HS : Hid (shapeL k K = allE (· == 17) K) := by unfold Hid; rcases hk with rfl | rfl <;> rfl
  rw [HS.out]
  generalize allE (· == 17) K = R at *
  unfold maxLen at hm
  rcases hk with rfl | rfl
  all_goals
    go_enter Tryz.func51, Tryz.ntmps51
    go_wp2_with (go_at_call 89; refine (C _).mono ?_; rintro e w' ⟨rfl, rfl⟩)
    go_ret
    exact ⟨rfl, rfl⟩

set_option maxRecDepth 100000 in
set_option maxHeartbeats 1000000 in
theorem shape_one (k : Int) (hk : k = 5 ∨ k = 9 ∨ k = 10 ∨ k = 11 ∨ k = 18 ∨ k = 20 ∨ k = 24 ∨ k = 25 ∨ k = 27 ∨ k = 29) (hl : K.length = m) (hm : m ≤ maxLen) (hK : KAt B w a K) :
    Calls Tryz.prog 51 #[.int .i64 k, .slice a m c] w fun e w' => e = .returned (.bool (shapeL k K)) ∧ w' = w := by
  have C := fun c => exprs_any B w K a m c 1 hl hm (by decide) hK
  have HS : Hid (shapeL k K = (allE isEx K && decide (m = 1))) := by
    unfold Hid
    rw [← hl]
    rcases hk with rfl | rfl | rfl | rfl | rfl | rfl | rfl | rfl | rfl | rfl <;> rfl
  rw [HS.out]
  generalize (allE isEx K && decide (m = 1)) = R at *
  unfold maxLen at hm
  rcases hk with rfl | rfl | rfl | rfl | rfl | rfl | rfl | rfl | rfl | rfl
  all_goals
    go_enter Tryz.func51, Tryz.ntmps51
    go_wp2_with (go_at_call 91; refine (C _).mono ?_; rintro e w' ⟨rfl, rfl⟩)
    go_ret
    exact ⟨rfl, rfl⟩

set_option maxRecDepth 100000 in
set_option maxHeartbeats 1000000 in
theorem shape_two (k : Int) (hk : k = 19 ∨ k = 21) (hl : K.length = m) (hm : m ≤ maxLen) (hK : KAt B w a K) :
    Calls Tryz.prog 51 #[.int .i64 k, .slice a m c] w fun e w' => e = .returned (.bool (shapeL k K)) ∧ w' = w := by
  have C := fun c => exprs_any B w K a m c 2 hl hm (by decide) hK
  have HS : Hid (shapeL k K = (allE isEx K && decide (m = 2))) := by
    unfold Hid
    rw [← hl]
    rcases hk with rfl | rfl <;> rfl
  rw [HS.out]
  generalize (allE isEx K && decide (m = 2)) = R at *
  unfold maxLen at hm
  rcases hk with rfl | rfl
  all_goals
    go_enter Tryz.func51, Tryz.ntmps51
    go_wp2_with (go_at_call 91; refine (C _).mono ?_; rintro e w' ⟨rfl, rfl⟩)
    go_ret
    exact ⟨rfl, rfl⟩

set_option maxRecDepth 100000 in
set_option maxHeartbeats 1000000 in
theorem shape_call (hl : K.length = m) (hm : m ≤ maxLen) (hK : KAt B w a K) :
    Calls Tryz.prog 51 #[.int .i64 22, .slice a m c] w fun e w' => e = .returned (.bool (shapeL 22 K)) ∧ w' = w := by
  have C := fun c => exprs_any B w K a m c m hl hm hm hK
  have HS : Hid (shapeL 22 K = (allE isEx K && decide (m = m))) := by
    unfold Hid
    simp only [decide_true, Bool.and_true]
    rfl
  rw [HS.out]
  generalize (allE isEx K && decide (m = m)) = R at *
  unfold maxLen at hm
  go_enter Tryz.func51, Tryz.ntmps51
  go_wp2_with (go_at_call 91; refine (C _).mono ?_; rintro e w' ⟨rfl, rfl⟩)
  go_ret
  exact ⟨rfl, rfl⟩

set_option maxRecDepth 100000 in
set_option maxHeartbeats 1000000 in
theorem shape_none (k : Int) (hk : k = 14 ∨ k = 15 ∨ k = 16 ∨ k = 17 ∨ k = 23 ∨ k = 26 ∨ k = 28 ∨ k = 30) (hl : K.length = m) (hm : m ≤ maxLen) :
    Calls Tryz.prog 51 #[.int .i64 k, .slice a m c] w fun e w' => e = .returned (.bool (shapeL k K)) ∧ w' = w := by
  have HS : Hid (shapeL k K = ((m : Int) == 0)) := by
    unfold Hid
    have : shapeL k K = decide (K.length = 0) := by rcases hk with rfl | rfl | rfl | rfl | rfl | rfl | rfl | rfl <;> rfl
    rw [this, hl, Bool.eq_iff_iff]
    simp
  rw [HS.out]
  unfold maxLen at hm
  rcases hk with rfl | rfl | rfl | rfl | rfl | rfl | rfl | rfl
  all_goals
    go_enter Tryz.func51, Tryz.ntmps51
    go_wp2
    go_ret
    exact ⟨rfl, rfl⟩

set_option maxRecDepth 100000 in
set_option maxHeartbeats 1000000 in
theorem shape_do (hl : K.length = m) (hm : m ≤ maxLen) (hK : KAt B w a K) :
    Calls Tryz.prog 51 #[.int .i64 12, .slice a m c] w fun e w' => e = .returned (.bool (shapeL 12 K)) ∧ w' = w := by
  by_cases h1 : m = 1
  · subst h1
    match K, hl with
    | [q], _ =>
      obtain ⟨b, o, rfl, hb, hc⟩ := hK 0 q rfl
      have HS : Hid (shapeL 12 [q] = (q == 22)) := rfl
      rw [HS.out]
      clear HS
      simp only [Nat.add_zero] at hc
      go_enter Tryz.func51, Tryz.ntmps51
      go_wp2
      go_ret
      exact ⟨rfl, rfl⟩
  · have HS : Hid (shapeL 12 K = false) := by
      unfold Hid
      have : shapeL 12 K = (decide (K.length = 1) && (K.getD 0 0 == 22)) := rfl
      rw [this, hl]; simp [h1]
    rw [HS.out]
    unfold maxLen at hm
    have h1' : ((m : Int) == 1) = false := beq_int_false (by omega)
    go_enter Tryz.func51, Tryz.ntmps51
    go_wp2
    all_goals first | (exfalso; omega) | skip
    go_ret
    exact ⟨rfl, rfl⟩

set_option maxRecDepth 100000 in
set_option maxHeartbeats 1000000 in
theorem shape_while (hl : K.length = m) (hm : m ≤ maxLen) (hK : KAt B w a K) :
    Calls Tryz.prog 51 #[.int .i64 8, .slice a m c] w fun e w' => e = .returned (.bool (shapeL 8 K)) ∧ w' = w := by
  by_cases h1 : m = 2
  · subst h1
    match K, hl with
    | [q, r], _ =>
      obtain ⟨b, o, rfl, hb, hc⟩ := hK 0 q rfl
      obtain ⟨b', o', e, _, hd⟩ := hK 1 r rfl
      injection e with e
      injection e with e1 e2
      subst e1 e2
      have HS : Hid (shapeL 8 [q, r] = (isEx q && (r == 4))) := rfl
      rw [HS.out]
      clear HS
      simp only [Nat.add_zero] at hc
      have C := fun w => Expr_any q w
      generalize isEx q = R at *
      cases R with
      | true =>
        go_enter Tryz.func51, Tryz.ntmps51
        go_wp2_with (go_at_call 92; refine (C _).mono ?_; rintro e w' ⟨rfl, rfl⟩)
        go_ret
        exact ⟨rfl, rfl⟩
      | false =>
        go_enter Tryz.func51, Tryz.ntmps51
        go_wp2_with (go_at_call 92; refine (C _).mono ?_; rintro e w' ⟨rfl, rfl⟩)
        go_ret
        exact ⟨rfl, rfl⟩
  · have HS : Hid (shapeL 8 K = false) := by
      unfold Hid
      have : shapeL 8 K = (decide (K.length = 2) && isEx (K.getD 0 0) && (K.getD 1 0 == 4)) := rfl
      rw [this, hl]; simp [h1]
    rw [HS.out]
    unfold maxLen at hm
    have h1' : ((m : Int) == 2) = false := beq_int_false (by omega)
    go_enter Tryz.func51, Tryz.ntmps51
    go_wp2
    all_goals first | (exfalso; omega) | skip
    go_ret
    exact ⟨rfl, rfl⟩

set_option maxRecDepth 100000 in
set_option maxHeartbeats 1000000 in
theorem shape_if (hl : K.length = m) (hm : m ≤ maxLen) (hK : KAt B w a K) :
    Calls Tryz.prog 51 #[.int .i64 7, .slice a m c] w fun e w' => e = .returned (.bool (shapeL 7 K)) ∧ w' = w := by
  by_cases h1 : m = 3
  · subst h1
    match K, hl with
    | [q, r, s], _ =>
      obtain ⟨b, o, rfl, hb, hc⟩ := hK 0 q rfl
      obtain ⟨b', o', e, _, hd⟩ := hK 1 r rfl
      injection e with e
      injection e with e1 e2
      subst e1 e2
      obtain ⟨b', o', e, _, hf⟩ := hK 2 s rfl
      injection e with e
      injection e with e1 e2
      subst e1 e2
      have HS : Hid (shapeL 7 [q, r, s] = (isEx q && (r == 4) && (s == 4 || s == 14))) := rfl
      rw [HS.out]
      clear HS
      simp only [Nat.add_zero] at hc
      have C := fun w => Expr_any q w
      generalize isEx q = R at *
      by_cases h4 : r = 4
      · subst h4
        by_cases h5 : s = 4
        · subst h5
          cases R
          all_goals
            go_enter Tryz.func51, Tryz.ntmps51
            go_wp2_with (go_at_call 92; refine (C _).mono ?_; rintro e w' ⟨rfl, rfl⟩)
            go_ret
            exact ⟨rfl, rfl⟩
        · have h5' : (s == 4) = false := by simp [h5]
          rw [h5']
          cases R
          all_goals
            go_enter Tryz.func51, Tryz.ntmps51
            go_wp2_with (go_at_call 92; refine (C _).mono ?_; rintro e w' ⟨rfl, rfl⟩)
            all_goals first | (exfalso; omega) | skip
            go_ret
            exact ⟨rfl, rfl⟩
      · have h4' : (r == 4) = false := by simp [h4]
        rw [h4']
        cases R
        all_goals
          go_enter Tryz.func51, Tryz.ntmps51
          go_wp2_with (go_at_call 92; refine (C _).mono ?_; rintro e w' ⟨rfl, rfl⟩)
          all_goals first | (exfalso; omega) | skip
          go_ret
          exact ⟨rfl, rfl⟩
  · have HS : Hid (shapeL 7 K = false) := by
      unfold Hid
      have : shapeL 7 K = (decide (K.length = 3) && isEx (K.getD 0 0) && (K.getD 1 0 == 4) && (K.getD 2 0 == 4 || K.getD 2 0 == 14)) := rfl
      rw [this, hl]; simp [h1]
    rw [HS.out]
    unfold maxLen at hm
    have h1' : ((m : Int) == 3) = false := beq_int_false (by omega)
    go_enter Tryz.func51, Tryz.ntmps51
    go_wp2
    all_goals first | (exfalso; omega) | skip
    go_ret
    exact ⟨rfl, rfl⟩

set_option maxRecDepth 100000 in
set_option maxHeartbeats 1000000 in
theorem shape_set (hl : K.length = m) (hm : m ≤ maxLen) (hK : KAt B w a K) :
    Calls Tryz.prog 51 #[.int .i64 6, .slice a m c] w fun e w' => e = .returned (.bool (shapeL 6 K)) ∧ w' = w := by
  have C := fun c => exprs_any B w K a m c 2 hl hm (by decide) hK
  have HS : Hid (shapeL 6 K = (allE isEx K && decide (m = 2) && (K.headD 0 == 17 || K.headD 0 == 20 || K.headD 0 == 21 || K.headD 0 == 30))) := by unfold Hid; rw [← hl]; rfl
  cases hr : (allE isEx K && decide (m = 2)) with
  | false =>
    rw [hr] at C
    rw [HS.out, hr]
    unfold maxLen at hm
    clear HS hr
    go_enter Tryz.func51, Tryz.ntmps51
    go_wp2_with (go_at_call 91; refine (C _).mono ?_; rintro e w' ⟨rfl, rfl⟩)
    go_ret
    exact ⟨by rw [Bool.false_and]; rfl, rfl⟩
  | true =>
    rw [hr] at C
    rw [HS.out, hr]
    have hm2 : m = 2 := by simp at hr; exact hr.2
    clear HS hr hm
    subst hm2
    match K, hl with
    | [q, r], _ =>
      obtain ⟨b, o, rfl, hb, hc⟩ := hK 0 q rfl
      simp only [Nat.add_zero] at hc
      have HS : Hid ((true && ([q, r].headD 0 == 17 || [q, r].headD 0 == 20 || [q, r].headD 0 == 21 || [q, r].headD 0 == 30)) = (q == 17 || q == 20 || q == 21 || q == 30)) := rfl
      rw [HS.out]
      clear HS
      go_enter Tryz.func51, Tryz.ntmps51
      go_wp2_with (go_at_call 91; refine (C _).mono ?_; rintro e w' ⟨rfl, rfl⟩)
      all_goals go_ret
      all_goals refine ⟨congrArg (fun b => Ending.returned (Value.bool b)) ?_, rfl⟩
      all_goals first | rfl | (simp_all; done) | skip

set_option maxRecDepth 100000 in
set_option maxHeartbeats 1000000 in
theorem shape_fn (hl : K.length = m) (hm : m ≤ maxLen) (hmc : m ≤ c) (hK : KAt B w a K) :
    Calls Tryz.prog 51 #[.int .i64 3, .slice a m c] w fun e w' => e = .returned (.bool (shapeL 3 K)) ∧ w' = w := by
  by_cases h0 : m = 0
  · subst h0
    have : K = [] := by rw [← List.length_eq_zero_iff]; exact hl
    subst this
    have HS : Hid (shapeL 3 [] = false) := rfl
    rw [HS.out]
    go_enter Tryz.func51, Tryz.ntmps51
    go_wp2
    go_ret
    exact ⟨rfl, rfl⟩
  · have hx : K[m - 1]? = some (K[m - 1]'(by omega)) := List.getElem?_eq_getElem _
    generalize K[m - 1]'(by omega) = q at hx
    obtain ⟨b, o, rfl, hb, hc⟩ := hK (m - 1) q hx
    have hKt : KAt B w (some ⟨b, o, none⟩) (K.take (m - 1)) := fun j k hj => by
      refine hK j k ?_
      rw [List.getElem?_take] at hj
      split at hj
      · exact hj
      · cases hj
    have C := fun c => all_any B w (K.take (m - 1)) (some ⟨b, o, none⟩) (m - 1) c 17 (by simp; omega) (by omega) hKt
    have HS : Hid (shapeL 3 K = (allE (· == 17) (K.take (m - 1)) && (q == 4))) := by
      unfold Hid
      have e1 : shapeL 3 K = (decide (0 < K.length) && (K.take (K.length - 1)).all (· == 17) && decide (K.getLastD 0 = 4)) := rfl
      have e2 : K.getLastD 0 = q := by rw [List.getLastD_eq_getLast?, List.getLast?_eq_getElem?, hl, hx]; rfl
      rw [e1, e2, hl, decide_eq_true (show 0 < m by omega), Bool.true_and]
      rfl
    rw [HS.out]
    clear HS hx hK hKt
    generalize allE (· == 17) (K.take (m - 1)) = R at *
    have hp1 : (m : Int) - 1 = ((m - 1 : Nat) : Int) := by omega
    unfold maxLen at hm
    cases R
    all_goals
      go_enter Tryz.func51, Tryz.ntmps51
      go_wp2_with (go_at_call 89; refine (C _).mono ?_; rintro e w' ⟨rfl, rfl⟩)
      go_ret
      exact ⟨rfl, rfl⟩
end
theorem shape_any (B : Nat) (w : World) (K : List Int) (a : Option Addr) (m c : Nat) (k : Int) (hk : 1 ≤ k ∧ k ≤ 30) (hl : K.length = m) (hm : m ≤ maxLen) (hmc : m ≤ c) (hK : KAt B w a K) :
    Calls Tryz.prog 51 #[.int .i64 k, .slice a m c] w fun e w' => e = .returned (.bool (shapeL k K)) ∧ w' = w := by
  have hc : k = 1 ∨ k = 3 ∨ k = 4 ∨ k = 6 ∨ k = 7 ∨ k = 8 ∨ k = 12 ∨ k = 22 ∨ (k = 2 ∨ k = 13) ∨ (k = 5 ∨ k = 9 ∨ k = 10 ∨ k = 11 ∨ k = 18 ∨ k = 20 ∨ k = 24 ∨ k = 25 ∨ k = 27 ∨ k = 29) ∨ (k = 19 ∨ k = 21) ∨ (k = 14 ∨ k = 15 ∨ k = 16 ∨ k = 17 ∨ k = 23 ∨ k = 26 ∨ k = 28 ∨ k = 30) := by omega
  rcases hc with rfl | rfl | rfl | rfl | rfl | rfl | rfl | rfl | h | h | h | h
  · exact shape_prog hl hm hK
  · exact shape_fn hl hm hmc hK
  · exact shape_block hl hm hK
  · exact shape_set hl hm hK
  · exact shape_if hl hm hK
  · exact shape_while hl hm hK
  · exact shape_do hl hm hK
  · exact shape_call hl hm hK
  · exact shape_names k h hl hm hK
  · exact shape_one k h hl hm hK
  · exact shape_two k h hl hm hK
  · exact shape_none k h hl hm
end Go.Proofs.YtnmfcaahdeddnaaGreatDoor.T5
namespace Go.Proofs.YtnmfcaahdeddnaaGreatDoor.T5
open Go.RowKit
set_option linter.unusedVariables false
set_option linter.unusedSimpArgs false

theorem blk_new (w : World) (o : Obj) : (w.alloc o).heap[w.heap.size]? = some o := heap_alloc_new w o
theorem blk_old {w : World} {k : Nat} {o p : Obj} (h : w.heap[k]? = some o) : (w.alloc p).heap[k]? = some o := (Below.heap_alloc _ _ _ (Array.getElem?_eq_some_iff.1 h).1).trans h
def ksEq (a b : List Int) : Bool := a == b
def txEq (s t : ByteArray) : Bool := s.toList == t.toList
def ndEq (x y : Nd) : Bool := x.kind == y.kind && txEq x.text y.text && ksEq x.ks y.ks
def sameL : List Nd → List Nd → Bool
  | [], [] => true
  | x :: a, y :: b => ndEq x y && sameL a b
  | _, _ => false
theorem same_len : ∀ (a b : List Nd), a.length ≠ b.length → sameL a b = false
  | [], [], h => by simp at h
  | [], _ :: _, _ => rfl
  | _ :: _, [], _ => rfl
  | x :: a, y :: b, h => by rw [sameL, same_len a b (by simpa using h), Bool.and_false]
theorem same_at {a b : List Nd} {p : Nat} {x y : Nd} (hx : a[p]? = some x) (hy : b[p]? = some y) : sameL (a.drop p) (b.drop p) = (ndEq x y && sameL (a.drop (p + 1)) (b.drop (p + 1))) := by
  obtain ⟨h1, e1⟩ := List.getElem?_eq_some_iff.1 hx
  obtain ⟨h2, e2⟩ := List.getElem?_eq_some_iff.1 hy
  rw [List.drop_eq_getElem_cons h1, List.drop_eq_getElem_cons h2, e1, e2, sameL]
theorem ks_at {a b : List Int} {p : Nat} {x y : Int} (hx : a[p]? = some x) (hy : b[p]? = some y) : ksEq (a.drop p) (b.drop p) = ((x == y) && ksEq (a.drop (p + 1)) (b.drop (p + 1))) := by
  obtain ⟨h1, e1⟩ := List.getElem?_eq_some_iff.1 hx
  obtain ⟨h2, e2⟩ := List.getElem?_eq_some_iff.1 hy
  unfold ksEq
  rw [List.drop_eq_getElem_cons h1, List.drop_eq_getElem_cons h2, e1, e2, List.cons_beq_cons]

set_option maxRecDepth 100000 in
set_option maxHeartbeats 2000000 in
theorem rsame_any (B : Nat) (w : World) (L M : List Nd) (a b : Option Addr) (m n ac bc : Nat) (ha : L.length = m) (hb : M.length = n) (hm : m ≤ maxLen) (hn : n ≤ maxLen) (hA : NAt B w a L) (hBt : NAt B w b M) :
    Calls Tryz.prog 10 #[.slice a m ac, .slice b n bc] w fun e w' => e = .returned (.bool (sameL L M)) ∧ Fr [] w w' := by
  have z1 : ∀ (w : World) (o : Obj), (w.alloc o).heap.size = w.heap.size + 1 := fun _ _ => by simp
  unfold maxLen at hm hn
  have HA : Hid (L.length = m) := ha
  have HB : Hid (M.length = n) := hb
  clear ha hb
  by_cases hmn : m = n
  · subst hmn
    go_enter Tryz.func10, Tryz.ntmps10
    go_wp2
    go_loopw [16] (fun i wr => ∃ p : Nat, p ≤ m ∧ i = .int .i64 p ∧ Fr [] w wr ∧ Hid (sameL (L.drop p) (M.drop p) = sameL L M)) (fun i _ => m - (intOf i).toNat)
    case atStart => exact ⟨0, Nat.zero_le _, rfl, Fr.refl _ _, rfl⟩
    case round =>
      obtain ⟨p, hp, rfl, fw, he⟩ := hrel
      by_cases hlt : p < m
      · have hx : L[p]? = some (L[p]'(by rw [HA.out]; exact hlt)) := List.getElem?_eq_getElem _
        have hy : M[p]? = some (M[p]'(by rw [HB.out]; exact hlt)) := List.getElem?_eq_getElem _
        generalize L[p]'(by rw [HA.out]; exact hlt) = x at hx
        generalize M[p]'(by rw [HB.out]; exact hlt) = y at hy
        obtain ⟨b1, o1, rfl, hb1, c1⟩ := (hA.fr fw (by simp)) p x hx
        obtain ⟨b2, o2, rfl, hb2, c2⟩ := (hBt.fr fw (by simp)) p y hy
        have HS : Hid _ := same_at hx hy
        clear hx hy hA hBt
        have l1 := World.block_lt_of_cell? wr _ c1.c0
        have l2 := World.block_lt_of_cell? wr _ c2.c0
        simp only at l1 l2
        obtain ⟨kx, tx, xa, xc, xs, px⟩ := x
        obtain ⟨ky, ty, ya, yc, ys, py⟩ := y
        obtain ⟨p0, p1, p2, p3, hkx, _, hlx, _, _⟩ := c1
        obtain ⟨q0, q1, q2, q3, hky, _, hly, _, _⟩ := c2
        simp only at p0 p1 p2 p3 q0 q1 q2 q3 hkx hky hlx hly
        unfold maxLen at hlx hly
        go_wp2
        go_region
        have Bx : ((wr.alloc (.cells #[.int .i64 kx, .string tx, .slice xa xs.length xc, .int .i64 px] 55)).alloc (.cells #[.int .i64 ky, .string ty, .slice ya ys.length yc, .int .i64 py] 55)).drew.heap[wr.heap.size]? = some (.cells #[.int .i64 kx, .string tx, .slice xa xs.length xc, .int .i64 px] 55) := blk_old (blk_new wr _)
        have By : ((wr.alloc (.cells #[.int .i64 kx, .string tx, .slice xa xs.length xc, .int .i64 px] 55)).alloc (.cells #[.int .i64 ky, .string ty, .slice ya ys.length yc, .int .i64 py] 55)).drew.heap[wr.heap.size + 1]? = some (.cells #[.int .i64 ky, .string ty, .slice ya ys.length yc, .int .i64 py] 55) := by
          have := blk_new (wr.alloc (.cells #[.int .i64 kx, .string tx, .slice xa xs.length xc, .int .i64 px] 55)) (.cells #[.int .i64 ky, .string ty, .slice ya ys.length yc, .int .i64 py] 55)
          rw [z1] at this
          exact this
        have fa : Fr [] wr ((wr.alloc (.cells #[.int .i64 kx, .string tx, .slice xa xs.length xc, .int .i64 px] 55)).alloc (.cells #[.int .i64 ky, .string ty, .slice ya ys.length yc, .int .i64 py] 55)).drew := (((Fr.refl _ _).alloc _).alloc _).drew
        generalize ((wr.alloc (.cells #[.int .i64 kx, .string tx, .slice xa xs.length xc, .int .i64 px] 55)).alloc (.cells #[.int .i64 ky, .string ty, .slice ya ys.length yc, .int .i64 py] 55)).drew = A at *
        generalize wr.heap.size + 1 = gy at *
        generalize wr.heap.size = gx at *
        rotate_left
        have By : ((wr.alloc (.cells #[.int .i64 ky, .string ty, .slice ya ys.length yc, .int .i64 py] 55)).alloc (.cells #[.int .i64 kx, .string tx, .slice xa xs.length xc, .int .i64 px] 55)).drew.heap[wr.heap.size]? = some (.cells #[.int .i64 ky, .string ty, .slice ya ys.length yc, .int .i64 py] 55) := blk_old (blk_new wr _)
        have Bx : ((wr.alloc (.cells #[.int .i64 ky, .string ty, .slice ya ys.length yc, .int .i64 py] 55)).alloc (.cells #[.int .i64 kx, .string tx, .slice xa xs.length xc, .int .i64 px] 55)).drew.heap[wr.heap.size + 1]? = some (.cells #[.int .i64 kx, .string tx, .slice xa xs.length xc, .int .i64 px] 55) := by
          have := blk_new (wr.alloc (.cells #[.int .i64 ky, .string ty, .slice ya ys.length yc, .int .i64 py] 55)) (.cells #[.int .i64 kx, .string tx, .slice xa xs.length xc, .int .i64 px] 55)
          rw [z1] at this
          exact this
        have fa : Fr [] wr ((wr.alloc (.cells #[.int .i64 ky, .string ty, .slice ya ys.length yc, .int .i64 py] 55)).alloc (.cells #[.int .i64 kx, .string tx, .slice xa xs.length xc, .int .i64 px] 55)).drew := (((Fr.refl _ _).alloc _).alloc _).drew
        generalize ((wr.alloc (.cells #[.int .i64 ky, .string ty, .slice ya ys.length yc, .int .i64 py] 55)).alloc (.cells #[.int .i64 kx, .string tx, .slice xa xs.length xc, .int .i64 px] 55)).drew = A at *
        generalize wr.heap.size + 1 = gx at *
        generalize wr.heap.size = gy at *
        rotate_left
        all_goals
          have x0 : ∀ w', Fr [] A w' → w'.cell? ⟨gx, 0, none⟩ = some (.int .i64 kx) := fun w' f => f.cell1 (by simp [World.cell?, Bx]) (by simp)
          have x1 : ∀ w', Fr [] A w' → w'.cell? ⟨gx, 1, none⟩ = some (.string tx) := fun w' f => f.cell1 (by simp [World.cell?, Bx]) (by simp)
          have x2 : ∀ w', Fr [] A w' → w'.cell? ⟨gx, 2, none⟩ = some (.slice xa xs.length xc) := fun w' f => f.cell1 (by simp [World.cell?, Bx]) (by simp)
          have y0 : ∀ w', Fr [] A w' → w'.cell? ⟨gy, 0, none⟩ = some (.int .i64 ky) := fun w' f => f.cell1 (by simp [World.cell?, By]) (by simp)
          have y1 : ∀ w', Fr [] A w' → w'.cell? ⟨gy, 1, none⟩ = some (.string ty) := fun w' f => f.cell1 (by simp [World.cell?, By]) (by simp)
          have y2 : ∀ w', Fr [] A w' → w'.cell? ⟨gy, 2, none⟩ = some (.slice ya ys.length yc) := fun w' f => f.cell1 (by simp [World.cell?, By]) (by simp)
          have kx1 := hkx.fr fa (by simp)
          have ky1 := hky.fr fa (by simp)
          have F1 := fw.trans fa
          have X0 := x0 A (Fr.refl _ _)
          have X1 := x1 A (Fr.refl _ _)
          have X2 := x2 A (Fr.refl _ _)
          have Y0 := y0 A (Fr.refl _ _)
          have Y1 := y1 A (Fr.refl _ _)
          have Y2 := y2 A (Fr.refl _ _)
          have HS : Hid (sameL (L.drop p) (M.drop p) = ((kx == ky && (tx.toList == ty.toList) && ksEq xs ys) && sameL (L.drop (p + 1)) (M.drop (p + 1)))) := HS
          clear hkx hky fa Bx By p0 p1 p2 p3 q0 q1 q2 q3 fw l1 l2 x0 x1 y0 y1
          by_cases h1 : kx = ky
          · subst h1
            cases h2 : (tx.toList == ty.toList) with
            | false =>
              have HR : Hid (sameL L M = false) := by unfold Hid; rw [← he.out, HS.out, h2]; simp
              clear HS x2 y2
              go_wp2
              all_goals first | (exfalso; simp_all; done) | skip
              go_ret
              exact ⟨by rw [HR.out]; rfl, F1⟩
            | true =>
              by_cases h3 : xs.length = ys.length
              · have HS2 : Hid (sameL (L.drop p) (M.drop p) = (ksEq xs ys && sameL (L.drop (p + 1)) (M.drop (p + 1)))) := by unfold Hid; rw [HS.out, h2]; simp
                clear HS
                generalize hyl : ys.length = yl at *
                subst h3
                have HL3 : Hid (ys.length = xs.length) := hyl
                clear hyl
                go_wp2
                go_loopw [51] (fun j wq => ∃ q : Nat, q ≤ xs.length ∧ j = .int .i64 q ∧ Fr [] A wq ∧ Hid (ksEq (xs.drop q) (ys.drop q) = ksEq xs ys)) (fun j _ => xs.length - (intOf j).toNat)
                case atStart => exact ⟨0, Nat.zero_le _, rfl, Fr.refl _ _, rfl⟩
                case round =>
                  obtain ⟨q, hq, rfl, fq, hk⟩ := hrel
                  clear X0 X1 X2 Y0 Y1 Y2
                  by_cases hql : q < xs.length
                  · have hu : xs[q]? = some xs[q] := List.getElem?_eq_getElem hql
                    have hv : ys[q]? = some (ys[q]'(by rw [HL3.out]; exact hql)) := List.getElem?_eq_getElem _
                    generalize xs[q] = u at hu
                    generalize ys[q]'(by rw [HL3.out]; exact hql) = v at hv
                    obtain ⟨b3, o3, rfl, _, c3⟩ := (kx1.fr fq (by simp)) q u hu
                    obtain ⟨b4, o4, rfl, _, c4⟩ := (ky1.fr fq (by simp)) q v hv
                    have X2 := x2 _ fq
                    have Y2 := y2 _ fq
                    have HKS : Hid _ := ks_at hu hv
                    clear hu hv x2 y2 kx1 ky1
                    by_cases huv : u = v
                    · subst huv
                      have HR : Hid (ksEq (xs.drop (q + 1)) (ys.drop (q + 1)) = ksEq xs ys) := by unfold Hid; rw [← hk.out, HKS.out]; simp
                      clear HKS
                      go_wp2
                      go_quiet (fail)
                      go_wp2
                      go_roundw
                      case rel => exact ⟨q + 1, hql, by go_num, fq.drewN _, HR⟩
                      case measure => simp [intOf]; omega
                    · have huv' : (u == v) = false := by simp [huv]
                      have HR : Hid (sameL L M = false) := by unfold Hid; rw [← he.out, HS2.out, ← hk.out, HKS.out, huv']; simp
                      clear HKS huv
                      go_wp2
                      go_quiet (fail)
                      go_wp2
                      go_ret
                      exact ⟨by rw [HR.out]; rfl, (F1.trans fq).drewN _⟩
                  · have HKE : Hid (ksEq xs ys = true) := by
                      unfold Hid
                      rw [← hk.out, List.drop_of_length_le (by omega), List.drop_of_length_le (by rw [HL3.out]; omega)]
                      rfl
                    have HR : Hid (sameL (L.drop (p + 1)) (M.drop (p + 1)) = sameL L M) := by unfold Hid; rw [← he.out, HS2.out, HKE.out, Bool.true_and]
                    clear HS2 HKE hk x2 y2
                    go_wp2
                    go_roundw
                    case rel => exact ⟨p + 1, hlt, by go_num, F1.trans fq, HR⟩
                    case measure => simp [intOf]; omega
              · have h3' : ((xs.length : Int) == (ys.length : Int)) = false := beq_int_false (by omega)
                have HR : Hid (sameL L M = false) := by
                  unfold Hid
                  have : ksEq xs ys = false := by
                    unfold ksEq
                    rw [Bool.eq_false_iff]
                    intro h
                    have h4 : xs = ys := by simpa using h
                    exact h3 (by rw [h4])
                  rw [← he.out, HS.out, this]; simp
                clear HS x2 y2
                go_wp2
                all_goals first | (exfalso; simp_all; done) | skip
                go_ret
                exact ⟨by rw [HR.out]; rfl, F1⟩
          · have h1' : (kx == ky) = false := by simp [h1]
            have HR : Hid (sameL L M = false) := by unfold Hid; rw [← he.out, HS.out, h1']; simp
            clear HS x2 y2
            go_wp2
            all_goals first | (exfalso; omega) | skip
            go_ret
            exact ⟨by rw [HR.out]; rfl, F1⟩
      · have HE : Hid (sameL L M = true) := by
          unfold Hid
          rw [← he.out, List.drop_of_length_le (by rw [HA.out]; omega), List.drop_of_length_le (by rw [HB.out]; omega)]
          rfl
        go_wp2
        go_ret
        exact ⟨by rw [HE.out]; rfl, fw⟩
  · have HR : Hid (sameL L M = false) := same_len L M (by rw [HA.out, HB.out]; exact hmn)
    have hne : ((m : Int) == (n : Int)) = false := beq_int_false (by omega)
    go_enter Tryz.func10, Tryz.ntmps10
    go_wp2
    go_ret
    exact ⟨by rw [HR.out]; rfl, Fr.refl _ _⟩
end Go.Proofs.YtnmfcaahdeddnaaGreatDoor.T5
