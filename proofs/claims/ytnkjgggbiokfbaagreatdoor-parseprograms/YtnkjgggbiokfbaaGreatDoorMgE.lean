/-
  Texts of the proof, in their order: TreeC, TreeD, TreeE, TreeF, TreeG, TreeH, TreeK, TreeL, TreeM, TreeN, TreeO, TreeP, RefT, LexW, LexX, LexY, RefU; conditions: as each says.
-/
import Derived.Deep.RegionHeld3
import Derived.Laws.OwnMore
import Derived.Laws.AppendOwn
import Derived.Lib.SlBytesConst
import Derived.Test.YtnkjgggbiokfbaaGreatDoorMgA
import Derived.Test.YtnkjgggbiokfbaaGreatDoorMgD
namespace Go.Proofs.YtnkjgggbiokfbaaGreatDoor.T5
open Go.RowKit
set_option maxRecDepth 100000
set_option linter.unusedVariables false

theorem fitL_at {s : ByteArray} {p : Nat} (h : p < s.size) (K : List Int) : fitL (s.data.toList.drop p) K = if lowN s[p].toNat = s[p].toNat then (hfit s[p].toNat K && fitL (s.data.toList.drop (p + 1)) (K.drop 1)) else fitL (s.data.toList.drop (p + 1)) (K.drop (cfit (lowN s[p].toNat) K)) := by
  rw [drop_cons s p h]
  rfl

theorem KAt.drop {B : Nat} {w : World} {ad : Addr} {ks : List Int} (h : KAt B w (some ad) ks) (q : Nat) : KAt B w (some (ad.add q)) (ks.drop q) := fun j k hk => by
  rw [List.getElem?_drop] at hk
  obtain ⟨b, o, e, hb, hc⟩ := h _ k hk
  injection e with e
  subst e
  exact ⟨b, o + q, by rw [Addr.add_lit], hb, by rw [Nat.add_assoc]; exact hc⟩
theorem KAt.nil {B : Nat} {w : World} {a : Option Addr} : KAt B w a [] := fun j k hk => by simp at hk

set_option maxRecDepth 100000 in
set_option maxHeartbeats 2000000 in
theorem kidsFit_any (s : ByteArray) (hs : s.size ≤ maxLen) (has : ∀ i (h : i < s.size), (s[i]'h).toNat < 128) (B : Nat) (L : List Nd) (w : World) (a : Option Addr) (len cap : Nat) (hlen : L.length = len) (hL : NAt B w a L) (hm : len ≤ maxLen) (hB : B ≤ w.heap.size)
    (ks : List Int) (ka : Option Addr) (m kc : Nat) (hkm : ks.length = m) (hk : KAt B w ka ks) (hkl : m ≤ maxLen) (hmc : m ≤ kc) (hka : ka = none → kc = 0) (hin : ∀ k ∈ ks, 0 ≤ k ∧ k < len) :
    Calls Tryz.prog 62 #[.string s, .slice a len cap, .slice ka m kc] w fun e w' => e = .returned (.bool (fitL s.data.toList (ks.map (kd L)))) ∧ Fr [] w w' := by
  have CF := fun (c : Nat) (hc : c < 128) (pos : Nat) (q : Nat) (a2 : Option Addr) (m2 c2 : Nat) (e2 : (ks.drop q).length = m2) (h2 : KAt B (w.iter s pos) a2 (ks.drop q)) (hm2 : m2 ≤ maxLen) =>
    countFitting_any c hc B L (w.iter s pos) a len cap hlen (hL.fr (((Fr.refl [] w).alloc _ : Fr [] w (w.iter s pos))) (by simp)) hm (ks.drop q) a2 m2 c2 e2 h2 hm2 (fun k hk' => hin k (List.mem_of_mem_drop hk'))
  have HK : Hid (ks.length = m) := hkm
  have FR : ∀ pos, Fr [] w (w.iter s pos) := fun pos => (Fr.refl [] w).alloc _
  unfold maxLen at hs hkl
  clear hlen hkm hin hL hm
  generalize hKK : ks.map (kd L) = K at *
  have HD : ∀ q, Hid ((ks.drop q).map (kd L) = K.drop q) := fun q => by unfold Hid; rw [← hKK, List.map_drop]
  have HKl : Hid (K.length = m) := by unfold Hid; rw [← hKK]; simp [HK.out]
  clear hKK
  go_enter Tryz.func62, Tryz.ntmps62
  go_wp2
  go_loopw [7] (fun at_ wr => ∃ pos q : Nat, pos ≤ s.size ∧ wr = w.iter s pos ∧ at_ = .int .i64 q ∧ q ≤ m ∧ Hid (fitL (s.data.toList.drop pos) (K.drop q) = fitL s.data.toList K)) (fun _ wr => s.size - wr.iterPos w.heap.size)
  case atStart => exact ⟨0, 0, Nat.zero_le _, rfl, rfl, Nat.zero_le _, rfl⟩
  case round =>
    obtain ⟨pos, q, hps, rfl, rfl, hq, he⟩ := hrel
    have hmu : (w.iter s pos).iterPos w.heap.size = pos := by simp [World.iterPos, World.iter_heap]
    have hmu2 : (w.iter s (pos + 1)).iterPos w.heap.size = pos + 1 := by simp [World.iterPos, World.iter_heap]
    by_cases hp : pos < s.size
    · have hc := has pos hp
      have hnx := fun ty => run_next_ascii (P := Tryz.prog) w s pos ty hp hc
      have HF : Hid _ := fitL_at hp (K.drop q)
      generalize s[pos].toNat = c at *
      have TL := fun w => toLower_any c hc w
      have hc2 := low_lt hc
      have CC := fun a2 c2 hk2 => CF (lowN c) hc2 (pos + 1) q a2 (m - q) c2 (by rw [List.length_drop, HK.out]) hk2 (by unfold maxLen; omega)
      rw [(HD q).out] at CC
      have hle := cfit_le (lowN c) (K.drop q)
      have HLE : Hid (cfit (lowN c) (K.drop q) + q ≤ m) := by unfold Hid; rw [List.length_drop, HKl.out] at hle; omega
      have H0 : Hid _ := cfit0 (lowN c) (K.drop q)
      have HDD : ∀ i, Hid (List.drop i (List.drop q K) = List.drop (q + i) K) := fun i => by unfold Hid; rw [List.drop_drop]
      have forms : (ka = none ∧ kc = 0 ∧ m = 0 ∧ q = 0) ∨ (∃ ad, ka = some ad ∧ kc = m ∧ q = m) ∨ (∃ ad, ka = some ad ∧ kc ≠ q) := by
        cases ka with
        | none => have := hka rfl; exact .inl ⟨rfl, this, by omega, by omega⟩
        | some ad => by_cases e : kc = q
                     · exact .inr (.inl ⟨ad, rfl, by omega, by omega⟩)
                     · exact .inr (.inr ⟨ad, rfl, e⟩)
      have k2 : ∀ ad, m ≤ q → KAt B (w.iter s (pos + 1)) ad (ks.drop q) := fun ad e => by
        have : ks.drop q = [] := by rw [List.drop_eq_nil_iff, HK.out]; omega
        rw [this]; exact KAt.nil
      have hle' := HLE.out
      clear hle CF hka
      generalize hN : cfit (lowN c) (K.drop q) = n at *
      have HA : Hid (lowN c = c → n = 0 → fitL s.data.toList K = false) := fun h1 h2 => by
        rw [← he.out, HF.out, if_pos h1]
        cases hh : hfit c (K.drop q) with
        | false => rfl
        | true => exact absurd h2 (H0.out.2 (by rw [h1]; exact hh))
      have HB : Hid (lowN c = c → n ≠ 0 → fitL (s.data.toList.drop (pos + 1)) (K.drop (q + 1)) = fitL s.data.toList K) := fun h1 h2 => by
        rw [← he.out, HF.out, if_pos h1, (HDD 1).out]
        have hh : hfit c (K.drop q) = true := by have := H0.out.1 h2; rw [h1] at this; exact this
        rw [hh]; rfl
      have HC : Hid (lowN c ≠ c → fitL (s.data.toList.drop (pos + 1)) (K.drop (q + n)) = fitL s.data.toList K) := fun h1 => by
        rw [← he.out, HF.out, if_neg h1, (HDD n).out]
      clear HF H0 HDD he hN HLE
      rcases forms with ⟨rfl, rfl, rfl, rfl⟩ | ⟨ad, rfl, rfl, rfl⟩ | ⟨ad, rfl, hne⟩
      · have C5 := CC none 0 (k2 _ (Nat.le_refl _))
        clear CC k2
        simp only [Nat.sub_zero] at C5
        by_cases h1 : lowN c = c
        · have h1' : ((c : Int) == (lowN c : Int)) = true := by rw [h1]; simp
          have h2 : n = 0 := by omega
          have h2' : ((n : Int) == 0) = true := by simp [h2]
          have HR : Hid _ := HA.out h1 h2
          clear HA HB HC
          clear h1
          clear h2
          go_wp2_with (first | (go_at_call 110; refine (TL _).mono ?_; rintro e w' ⟨rfl, rfl⟩) | (go_at_call 111; refine C5.mono ?_; rintro e w' ⟨rfl, rfl⟩))
          all_goals (go_ret; exact ⟨by rw [HR.out]; rfl, FR _⟩)
        · have h1' : ((c : Int) == (lowN c : Int)) = false := by simp; omega
          have HR : Hid _ := HC.out h1
          clear HA HB HC
          clear h1
          go_wp2_with (first | (go_at_call 110; refine (TL _).mono ?_; rintro e w' ⟨rfl, rfl⟩) | (go_at_call 111; refine C5.mono ?_; rintro e w' ⟨rfl, rfl⟩))
          all_goals
            go_roundw
            case rel => exact ⟨pos + 1, 0 + n, hp, rfl, by go_num, by omega, HR⟩
            case measure => rw [hmu, hmu2]; omega
      · have C5 := CC (some ad) 0 (k2 _ (Nat.le_refl _))
        clear CC k2
        simp only [Nat.sub_self] at C5
        by_cases h1 : lowN c = c
        · have h1' : ((c : Int) == (lowN c : Int)) = true := by rw [h1]; simp
          have h2 : n = 0 := by omega
          have h2' : ((n : Int) == 0) = true := by simp [h2]
          have HR : Hid _ := HA.out h1 h2
          clear HA HB HC
          clear h1
          clear h2
          go_wp2_with (first | (go_at_call 110; refine (TL _).mono ?_; rintro e w' ⟨rfl, rfl⟩) | (go_at_call 111; refine C5.mono ?_; rintro e w' ⟨rfl, rfl⟩))
          all_goals (go_ret; exact ⟨by rw [HR.out]; rfl, FR _⟩)
        · have h1' : ((c : Int) == (lowN c : Int)) = false := by simp; omega
          have HR : Hid _ := HC.out h1
          clear HA HB HC
          clear h1
          go_wp2_with (first | (go_at_call 110; refine (TL _).mono ?_; rintro e w' ⟨rfl, rfl⟩) | (go_at_call 111; refine C5.mono ?_; rintro e w' ⟨rfl, rfl⟩))
          all_goals
            go_roundw
            case rel => exact ⟨pos + 1, _, hp, rfl, by go_num, by omega, HR⟩
            case measure => rw [hmu, hmu2]; omega
      · have C5 := CC (some (ad.add q)) (kc - q) ((hk.fr (FR _) (by simp)).drop q)
        clear CC k2 hk
        by_cases h1 : lowN c = c
        · have h1' : ((c : Int) == (lowN c : Int)) = true := by rw [h1]; simp
          by_cases h2 : n = 0
          · have h2' : ((n : Int) == 0) = true := by simp [h2]
            have HR : Hid _ := HA.out h1 h2
            clear HA HB HC
            clear h1
            clear h2
            go_wp2_with (first | (go_at_call 110; refine (TL _).mono ?_; rintro e w' ⟨rfl, rfl⟩) | (go_at_call 111; refine C5.mono ?_; rintro e w' ⟨rfl, rfl⟩))
            all_goals (go_ret; exact ⟨by rw [HR.out]; rfl, FR _⟩)
          · have h2' : ((n : Int) == 0) = false := by simp [h2]
            have HR : Hid _ := HB.out h1 h2
            clear HA HB HC
            clear h1
            have hn0 : 0 < n := by omega
            clear h2
            go_wp2_with (first | (go_at_call 110; refine (TL _).mono ?_; rintro e w' ⟨rfl, rfl⟩) | (go_at_call 111; refine C5.mono ?_; rintro e w' ⟨rfl, rfl⟩))
            all_goals
              go_roundw
              case rel => exact ⟨pos + 1, q + 1, hp, rfl, by go_num, by omega, HR⟩
              case measure => rw [hmu, hmu2]; omega
        · have h1' : ((c : Int) == (lowN c : Int)) = false := by simp; omega
          have HR : Hid _ := HC.out h1
          clear HA HB HC
          clear h1
          go_wp2_with (first | (go_at_call 110; refine (TL _).mono ?_; rintro e w' ⟨rfl, rfl⟩) | (go_at_call 111; refine C5.mono ?_; rintro e w' ⟨rfl, rfl⟩))
          all_goals
            go_roundw
            case rel => exact ⟨pos + 1, q + n, hp, rfl, by go_num, by omega, HR⟩
            case measure => rw [hmu, hmu2]; omega
    · have hnx := fun ty => run_next_end (P := Tryz.prog) w s pos ty hp
      have HE : Hid (fitL s.data.toList K = decide (q = m)) := by
        unfold Hid
        rw [← he.out, drop_end s pos (by omega)]
        simp only [fitL]
        rw [Bool.eq_iff_iff]
        simp [HKl.out]
        omega
      go_wp2
      go_ret
      refine ⟨?_, FR _⟩
      rw [HE.out]
      refine congrArg (fun b => Ending.returned (Value.bool b)) ?_
      rw [Bool.eq_iff_iff]
      simp
      omega
end Go.Proofs.YtnkjgggbiokfbaaGreatDoor.T5
namespace Go.Proofs.YtnkjgggbiokfbaaGreatDoor.T5
open Go.RowKit
set_option maxRecDepth 100000
set_option linter.unusedVariables false
set_option linter.unusedSimpArgs false

theorem num_pos {s : ByteArray} {n : Nat} (h : num s = some n) : 0 < s.size := by
  refine Decidable.byContradiction fun hn => ?_
  have : s.data.toList = [] := by rw [← List.length_eq_zero_iff, ← Lib.size_eq]; omega
  rw [num, this] at h
  simp [numL, quotedL, valueL] at h

theorem un_toList (s : ByteArray) : unL s = unaries.contains s.toList := by rw [Lib.toList_data]; rfl
theorem bin_toList (s : ByteArray) : binL s = binaries.contains s.toList := by rw [Lib.toList_data]; rfl

set_option maxRecDepth 100000 in
theorem isUnary_any (s : ByteArray) (w : World) :
    Calls Tryz.prog 108 #[.string s] w fun e w' => e = .returned (.bool (unL s)) ∧ w' = w := by
  have hu := un_toList s
  generalize unL s = R at hu ⊢
  go_enter Tryz.func108, Tryz.ntmps108
  go_wp2
  all_goals go_ret
  all_goals refine ⟨congrArg (fun b => Ending.returned (Value.bool b)) ?_, rfl⟩
  all_goals (simp_all [unaries])

set_option maxRecDepth 100000 in
theorem isBin_any (s : ByteArray) (w : World) :
    Calls Tryz.prog 109 #[.string s] w fun e w' => e = .returned (.bool (binL s)) ∧ w' = w := by
  have hu := bin_toList s
  generalize binL s = R at hu ⊢
  go_enter Tryz.func109, Tryz.ntmps109
  go_wp2
  all_goals go_ret
  all_goals refine ⟨congrArg (fun b => Ending.returned (Value.bool b)) ?_, rfl⟩
  all_goals (simp_all [binaries])

set_option maxRecDepth 100000 in
theorem isDecimal_any (s : ByteArray) (w : World) (hs : s.size ≤ maxLen) :
    Calls Tryz.prog 107 #[.string s] w fun e w' => e = .returned (.bool (decL s)) ∧ w' = w := by
  have C := fun w => number_any s w hs
  unfold decL
  cases hn : num s with
  | none =>
    rw [hn] at C
    go_enter Tryz.func107, Tryz.ntmps107
    go_wp2_with (go_at_call 149; refine (C _).mono ?_; rintro e w' ⟨he, rfl⟩; rw [nOut] at he; subst he)
    go_ret
    exact ⟨rfl, rfl⟩
  | some n =>
    rw [hn] at C
    have hp := num_pos hn
    obtain ⟨l, hl⟩ := head_of hp
    have hb := byte_lt s[0]
    have e1 : (s.toList == [48]) = decide (s.data.toList = [48]) := by rw [Lib.toList_data, Bool.eq_iff_iff]; simp
    have e2 : s.data.toList.headD 0 = s[0] := by rw [hl]; rfl
    rw [e2, ← e1]
    simp only [Option.isSome_some, Bool.true_and]
    clear e1 e2 hl hn
    go_enter Tryz.func107, Tryz.ntmps107
    go_wp2_with (go_at_call 149; refine (C _).mono ?_; rintro e w' ⟨he, rfl⟩; rw [nOut] at he; subst he)
    all_goals go_ret
    all_goals refine ⟨congrArg (fun b => Ending.returned (Value.bool b)) ?_, rfl⟩
    · simp_all
    · rename_i h1 h2
      have e : decide (49 ≤ s[0].toNat ∧ s[0].toNat ≤ 57) = decide ((s[0].toNat : Int) ≤ 57) := by rw [decide_eq_decide]; omega
      rw [e]
    · rename_i h1 h2
      have e : decide (49 ≤ s[0].toNat) = false := by rw [decide_eq_false_iff_not]; omega
      rw [e]; simp

set_option maxRecDepth 100000 in
theorem textFits_any (t : Nat) (ht : t ≤ 4) (s : ByteArray) (w : World) (hs : s.size ≤ maxLen) (T : Tabs w) :
    Calls Tryz.prog 61 #[.int .i64 t, .string s] w fun e w' => e = .returned (.bool (textL t s)) ∧ w' = w := by
  have hE : s.toList.isEmpty = noneL s := by rw [Lib.toList_data]; rfl
  match t, ht with
  | 0, _ =>
    go_enter Tryz.func61, Tryz.ntmps61
    go_wp2
    go_ret
    exact ⟨congrArg (fun b => Ending.returned (Value.bool b)) (by first | rfl | exact hE), rfl⟩
  | 1, _ =>
    go_enter Tryz.func61, Tryz.ntmps61
    go_wp2_with (go_at_call 106; refine (name_any s _ hs T).mono ?_; rintro e w' ⟨rfl, rfl⟩)
    go_ret
    exact ⟨rfl, rfl⟩
  | 2, _ =>
    go_enter Tryz.func61, Tryz.ntmps61
    go_wp2_with (go_at_call 107; refine (isDecimal_any s _ hs).mono ?_; rintro e w' ⟨rfl, rfl⟩)
    go_ret
    exact ⟨rfl, rfl⟩
  | 3, _ =>
    go_enter Tryz.func61, Tryz.ntmps61
    go_wp2_with (go_at_call 108; refine (isUnary_any s _).mono ?_; rintro e w' ⟨rfl, rfl⟩)
    go_ret
    exact ⟨rfl, rfl⟩
  | 4, _ =>
    go_enter Tryz.func61, Tryz.ntmps61
    go_wp2_with (go_at_call 109; refine (isBin_any s _).mono ?_; rintro e w' ⟨rfl, rfl⟩)
    go_ret
    exact ⟨rfl, rfl⟩

/-- A row of marks, of its own. -/
def TB (w : World) (g : Nat) (T : List Bool) : Prop := w.heap[g]? = some (.cells (T.map Value.bool).toArray 4 (0, 0))
theorem TB.fr {w w' : World} {g : Nat} {T : List Bool} {S : List Nat} (h : TB w g T) (f : Fr S w w') (hg : g ∉ S) : TB w' g T :=
  (f.block g (Array.getElem?_eq_some_iff.1 h).1 hg).trans h
theorem TB.lt {w : World} {g : Nat} {T : List Bool} (h : TB w g T) : g < w.heap.size := (Array.getElem?_eq_some_iff.1 h).1
theorem TB.fz {w : World} {g : Nat} {T : List Bool} (h : TB w g T) (i : Nat) : w.frozen? ⟨g, i, none⟩ = false := by unfold TB at h; simp [World.frozen?, h]
theorem TB.cell {w : World} {g : Nat} {T : List Bool} (h : TB w g T) {i : Nat} (hi : i < T.length) : w.cell? ⟨g, i, none⟩ = some (.bool (T.getD i false)) := by
  unfold TB at h
  simp [World.cell?, h, hi, List.getD_eq_getElem?_getD]
theorem TB.set {w : World} {g : Nat} {T : List Bool} (h : TB w g T) (i : Nat) (v : Bool) : TB (w.setCell ⟨g, i, none⟩ (.bool v)) g (T.set i v) := by
  unfold TB
  rw [heap_setCell_same _ _ _ _ _ _ h]
  congr 2
  simp [List.map_set]

def takeOk (n : Nat) (ks : List Int) (T : List Bool) : Bool := (takeL n ks T).isSome

set_option maxRecDepth 100000 in
set_option maxHeartbeats 1000000 in
/-- Kids are marked. -/
theorem take_any (B : Nat) (ks : List Int) (ka : Option Addr) (m kc n : Nat) (w : World) (hkm : ks.length = m) (hk : KAt B w ka ks) (hkl : m ≤ maxLen) (g : Nat) (T : List Bool) (tl tc : Nat) (hT : TB w g T) (htl : T.length = tl) (hn : n ≤ tl) (htm : tl ≤ maxLen) (hg : B ≤ g) :
    Calls Tryz.prog 60 #[.slice ka m kc, .int .i64 n, .slice (some ⟨g, 0, none⟩) tl tc] w fun e w' => e = .returned (.bool (takeL n ks T).isSome) ∧ Fr [g] w w' ∧ ∀ T', takeL n ks T = some T' → TB w' g T' := by
  have HK : Hid (ks.length = m) := hkm
  have HT : Hid (T.length = tl) := htl
  unfold maxLen at hkl htm
  clear hkm htl
  go_enter Tryz.func60, Tryz.ntmps60
  go_wp2
  go_loopw [11] (fun i wr => ∃ p : Nat, p ≤ m ∧ i = .int .i64 p ∧ Fr [g] w wr ∧ ∃ U : List Bool, TB wr g U ∧ U.length = tl ∧ Hid (takeL n (ks.drop p) U = takeL n ks T)) (fun i _ => m - (intOf i).toNat)
  case atStart => exact ⟨0, Nat.zero_le _, rfl, Fr.refl _ _, T, hT, HT.out, rfl⟩
  case round =>
    obtain ⟨p, hp, rfl, fw, U, hU, hUl, he⟩ := hrel
    have HU : Hid (U.length = tl) := hUl
    clear hUl
    by_cases hlt : p < m
    · have hx : ks[p]? = some (ks[p]'(by rw [HK.out]; exact hlt)) := List.getElem?_eq_getElem _
      have hd := List.drop_eq_getElem_cons (show p < ks.length by rw [HK.out]; exact hlt)
      generalize ks[p]'(by rw [HK.out]; exact hlt) = k at hx hd
      obtain ⟨b, o, rfl, hb, hcell⟩ := (hk.fr fw (by simp; omega)) p _ hx
      have HE : Hid (takeL n (k :: ks.drop (p + 1)) U = takeL n ks T) := by unfold Hid; rw [← he.out, hd]
      have HS : Hid (k < 0 ∨ (n : Int) ≤ k ∨ U.getD k.toNat false = true → takeL n ks T = none) := fun h => by rw [← HE.out, takeL, if_pos h]
      have HG : Hid (¬ (k < 0 ∨ (n : Int) ≤ k ∨ U.getD k.toNat false = true) → takeL n (ks.drop (p + 1)) (U.set k.toNat true) = takeL n ks T) := fun h => by rw [← HE.out, takeL, if_neg h]
      clear HE he hd hx hk
      by_cases h1 : k < 0
      · have HR : Hid _ := HS.out (.inl h1)
        clear HS HG
        go_wp2
        go_ret
        exact ⟨by rw [HR.out]; rfl, fw, fun T' h => by rw [HR.out] at h; cases h⟩
      · by_cases h2 : (n : Int) ≤ k
        · have HR : Hid _ := HS.out (.inr (.inl h2))
          clear HS HG
          go_wp2
          go_ret
          exact ⟨by rw [HR.out]; rfl, fw, fun T' h => by rw [HR.out] at h; cases h⟩
        · obtain ⟨q, rfl⟩ := Int.eq_ofNat_of_zero_le (show 0 ≤ k by omega)
          have hqn : q < n := by omega
          have hc := hU.cell (i := q) (by rw [HU.out]; omega)
          simp only [Int.toNat_natCast] at HS HG
          cases h3 : U.getD q false with
          | true =>
            have HR : Hid _ := HS.out (.inr (.inr h3))
            rw [h3] at hc
            clear HS HG h3
            go_wp2
            go_ret
            exact ⟨by rw [HR.out]; rfl, fw, fun T' h => by rw [HR.out] at h; cases h⟩
          | false =>
            have HR : Hid _ := HG.out (by rw [h3]; simp; omega)
            rw [h3] at hc
            have hS := hU.set q true
            have hfz := hU.fz q
            clear HS HG h3
            go_wp2
            go_roundw
            case rel => exact ⟨p + 1, hlt, by go_num, fw.setCell (.inl (by simp)) _, U.set q true, hS, by rw [List.length_set]; exact HU.out, HR⟩
            case measure => simp [intOf]; omega
    · have HE : Hid (takeL n ks T = some U) := by
        unfold Hid
        rw [← he.out, List.drop_of_length_le (by rw [HK.out]; omega)]
        rfl
      go_wp2
      go_ret
      exact ⟨by rw [HE.out]; rfl, fw, fun T' h => by rw [HE.out] at h; injection h with h; rw [← h]; exact hU⟩
end Go.Proofs.YtnkjgggbiokfbaaGreatDoor.T5
namespace Go.Proofs.YtnkjgggbiokfbaaGreatDoor.T5
open Go.RowKit
set_option maxRecDepth 100000
set_option linter.unusedVariables false
set_option linter.unusedSimpArgs false

/-- The map's entries, laid one behind another. -/
def valW (t : Nat) (s : List UInt8) : Value := .agg #[.int .i64 t, .string ⟨s.toArray⟩]
def EsL : List (Int × Nat × List UInt8) → Nat → List MapEntry
  | [], _ => []
  | x :: r, b => ⟨.int .i64 x.1, valW x.2.1 x.2.2, b⟩ :: EsL r (b + 1)
def Es (n : Nat) : Array MapEntry := (EsL (wantsL.take n) 0).toArray

theorem EsL_snoc : ∀ (l : List (Int × Nat × List UInt8)) (x : Int × Nat × List UInt8) (b : Nat), EsL (l ++ [x]) b = EsL l b ++ [⟨.int .i64 x.1, valW x.2.1 x.2.2, b + l.length⟩]
  | [], x, b => rfl
  | y :: l, x, b => by
    simp only [List.cons_append, EsL, EsL_snoc l x (b + 1), List.length_cons]
    rw [show b + 1 + l.length = b + (l.length + 1) by omega]
theorem find_none (k : Int) : ∀ (l : List (Int × Nat × List UInt8)) (b i : Nat), l.lookup k = none → Instr.findNow (.int .i64) (.int .i64 k) (EsL l b) i = some none
  | [], b, i, h => rfl
  | x :: l, b, i, h => by
    obtain ⟨a, v⟩ := x
    rw [List.lookup_cons] at h
    cases hk : (k == a) with
    | true => rw [hk] at h; cases h
    | false =>
      rw [hk] at h
      simp only [EsL, Instr.findNow, Instr.sameNow, if_true, hk]
      exact find_none k l (b + 1) (i + 1) h
theorem find_some (k : Int) (t : Nat) (s : List UInt8) : ∀ (l : List (Int × Nat × List UInt8)) (b i : Nat), l.lookup k = some (t, s) → ∃ j, Instr.findNow (.int .i64) (.int .i64 k) (EsL l b) i = some (some (j, valW t s))
  | [], b, i, h => by cases h
  | x :: l, b, i, h => by
    obtain ⟨a, v⟩ := x
    rw [List.lookup_cons] at h
    cases hk : (k == a) with
    | true =>
      rw [hk] at h
      cases h
      exact ⟨i, by simp only [EsL, Instr.findNow, Instr.sameNow, if_true, hk]⟩
    | false =>
      rw [hk] at h
      obtain ⟨j, hj⟩ := find_some k t s l (b + 1) (i + 1) h
      exact ⟨j, by simp only [EsL, Instr.findNow, Instr.sameNow, if_true, hk]; exact hj⟩

theorem check3 (e : Bool) (v : Int) (w : World) : (Instr.checkKey e 10000 3 (.int .i64 v)).run Tryz.prog w = .ok () w := by
  have h : ∀ n, (Instr.checkKey e (n + 1) 3 (.int .i64 v)).run Tryz.prog w = .ok () w := by
    intro n
    simp [Instr.checkKey, run_underlying Tryz.underlying3]
  exact h 9999
theorem alloc_set (w : World) (o o' : Obj) : { w.alloc o with heap := (w.alloc o).heap.setIfInBounds w.heap.size o' } = w.alloc o' := by
  simp only [World.alloc]
  congr 1
  apply Array.ext'
  simp [Array.setIfInBounds, Array.toList_push]
theorem zero59 (w : World) : (zeroValue 91).run Tryz.prog w = .ok (.agg #[.int .i64 0, .string ⟨#[]⟩]) w := by kernel_rfl
theorem under42 : Tryz.prog.underlying 62 = some (.map 3 91) := by kernel_rfl

theorem ins_any (w : World) (l : List (Int × Nat × List UInt8)) (x : Int × Nat × List UInt8) (h : l.lookup x.1 = none) :
    (Instr.mapUpdate 62 (.map (some w.heap.size)) (.int .i64 x.1) (valW x.2.1 x.2.2)).run Tryz.prog (w.alloc (.map (EsL l 0).toArray l.length)) = .ok () (w.alloc (.map (EsL (l ++ [x]) 0).toArray (l.length + 1))) := by
  have hf := find_none x.1 l 0 0 h
  have hb : (w.alloc (.map (EsL l 0).toArray l.length)).heap[w.heap.size]? = some (.map (EsL l 0).toArray l.length) := heap_alloc_new w _
  have hset := MapKept.run_setObj_map (P := Tryz.prog) (.map ((EsL l 0).toArray.push ⟨.int .i64 x.1, valW x.2.1 x.2.2, l.length⟩) (l.length + 1)) hb
  rw [alloc_set] at hset
  simp only [Instr.mapUpdate, run_underlying under42, Sem.run_bind, Result.andThen, MapKept.run_getObj_map hb, check3, Instr.findKey, run_underlying Tryz.underlying3, hf, EsL_snoc, Sem.run_pure, hset]
  simp

theorem lookups : ∀ i, i < 30 → ∀ x, wantsL[i]? = some x → (wantsL.take i).lookup x.1 = none := by
  intro i hi x hx
  have : ∀ i : Fin 30, (match wantsL[i.1]? with | some x => (wantsL.take i.1).lookup x.1 | none => none) = none := by decide
  have := this ⟨i, hi⟩
  simp only [hx] at this
  exact this
theorem ins (w : World) (i : Nat) (h : i < 30) :
    (Instr.mapUpdate 62 (.map (some w.heap.size)) (.int .i64 (wantsL.getD i (0, 0, [])).1) (valW (wantsL.getD i (0, 0, [])).2.1 (wantsL.getD i (0, 0, [])).2.2)).run Tryz.prog (w.alloc (.map (Es i) i)) = .ok () (w.alloc (.map (Es (i + 1)) (i + 1))) := by
  have hl : wantsL.length = 30 := rfl
  have hx : wantsL[i]? = some (wantsL.getD i (0, 0, [])) := by simp [List.getD_eq_getElem?_getD, hl, h]
  have e : wantsL.take (i + 1) = wantsL.take i ++ [wantsL.getD i (0, 0, [])] := by rw [List.take_add_one, hx]; rfl
  have := ins_any w (wantsL.take i) _ (lookups i h _ hx)
  rw [← e] at this
  rw [show (wantsL.take i).length = i by simp [hl]; omega] at this
  exact this

/-- The map of what kinds want. -/
def WM (w : World) (g : Nat) : Prop := w.heap[g]? = some (.map (Es 30) 30)
theorem WM.fr {w w' : World} {g : Nat} {S : List Nat} (h : WM w g) (f : Fr S w w') (hg : g ∉ S) : WM w' g :=
  (f.block g (Array.getElem?_eq_some_iff.1 h).1 hg).trans h
theorem WM.lt {w : World} {g : Nat} (h : WM w g) : g < w.heap.size := (Array.getElem?_eq_some_iff.1 h).1
theorem Es30 : (Es 30).toList = EsL wantsL 0 := rfl
theorem WM.none {w : World} {g : Nat} (h : WM w g) {k : Int} (hk : wantL k = none) : (Instr.lookup 62 (.map (some g)) (.int .i64 k) true).run Tryz.prog w = .ok (.tuple #[.agg #[.int .i64 0, .string ⟨#[]⟩], .bool false]) w := by
  have hf := find_none k wantsL 0 0 hk
  unfold WM at h
  simp [Instr.lookup, run_underlying under42, MapKept.run_getObj_map h, check3, Instr.findKey, run_underlying Tryz.underlying3, Es30, hf, zero59, Result.andThen]
theorem WM.some {w : World} {g : Nat} (h : WM w g) {k : Int} {t : Nat} {s : List UInt8} (hk : wantL k = some (t, s)) : (Instr.lookup 62 (.map (some g)) (.int .i64 k) true).run Tryz.prog w = .ok (.tuple #[.agg #[.int .i64 t, .string ⟨s.toArray⟩], .bool true]) w := by
  obtain ⟨j, hf⟩ := find_some k t s wantsL 0 0 hk
  unfold WM at h
  simp [Instr.lookup, run_underlying under42, MapKept.run_getObj_map h, check3, Instr.findKey, run_underlying Tryz.underlying3, Es30, hf, valW, Result.andThen]

set_option maxRecDepth 100000 in
set_option maxHeartbeats 1000000 in
theorem wants_any (w : World) :
    Calls Tryz.prog 32 #[] w fun e w' => e = .returned (.map (some w.heap.size)) ∧ w' = w.alloc (.map (Es 30) 30) := by
  have hmk : (Instr.makeMap 62 none).run Tryz.prog w = .ok (.map (some w.heap.size)) (w.alloc (.map (Es 0) 0)) := rfl
  have i0 : (Instr.mapUpdate 62 (.map (some w.heap.size)) (.int .i64 1) (.agg #[.int .i64 0, .string ⟨#[68]⟩])).run Tryz.prog (w.alloc (.map (Es 0) 0)) = .ok () (w.alloc (.map (Es 1) 1)) := ins w 0 (by decide)
  have i1 : (Instr.mapUpdate 62 (.map (some w.heap.size)) (.int .i64 2) (.agg #[.int .i64 1, .string ⟨#[78]⟩])).run Tryz.prog (w.alloc (.map (Es 1) 1)) = .ok () (w.alloc (.map (Es 2) 2)) := ins w 1 (by decide)
  have i2 : (Instr.mapUpdate 62 (.map (some w.heap.size)) (.int .i64 3) (.agg #[.int .i64 1, .string ⟨#[78, 98]⟩])).run Tryz.prog (w.alloc (.map (Es 2) 2)) = .ok () (w.alloc (.map (Es 3) 3)) := ins w 2 (by decide)
  have i3 : (Instr.mapUpdate 62 (.map (some w.heap.size)) (.int .i64 4) (.agg #[.int .i64 0, .string ⟨#[83]⟩])).run Tryz.prog (w.alloc (.map (Es 3) 3)) = .ok () (w.alloc (.map (Es 4) 4)) := ins w 3 (by decide)
  have i4 : (Instr.mapUpdate 62 (.map (some w.heap.size)) (.int .i64 5) (.agg #[.int .i64 1, .string ⟨#[101]⟩])).run Tryz.prog (w.alloc (.map (Es 4) 4)) = .ok () (w.alloc (.map (Es 5) 5)) := ins w 4 (by decide)
  have i5 : (Instr.mapUpdate 62 (.map (some w.heap.size)) (.int .i64 6) (.agg #[.int .i64 0, .string ⟨#[112, 101]⟩])).run Tryz.prog (w.alloc (.map (Es 5) 5)) = .ok () (w.alloc (.map (Es 6) 6)) := ins w 5 (by decide)
  have i6 : (Instr.mapUpdate 62 (.map (some w.heap.size)) (.int .i64 7) (.agg #[.int .i64 0, .string ⟨#[101, 98, 111]⟩])).run Tryz.prog (w.alloc (.map (Es 6) 6)) = .ok () (w.alloc (.map (Es 7) 7)) := ins w 6 (by decide)
  have i7 : (Instr.mapUpdate 62 (.map (some w.heap.size)) (.int .i64 8) (.agg #[.int .i64 0, .string ⟨#[101, 98]⟩])).run Tryz.prog (w.alloc (.map (Es 7) 7)) = .ok () (w.alloc (.map (Es 8) 8)) := ins w 7 (by decide)
  have i8 : (Instr.mapUpdate 62 (.map (some w.heap.size)) (.int .i64 9) (.agg #[.int .i64 0, .string ⟨#[101]⟩])).run Tryz.prog (w.alloc (.map (Es 8) 8)) = .ok () (w.alloc (.map (Es 9) 9)) := ins w 8 (by decide)
  have i9 : (Instr.mapUpdate 62 (.map (some w.heap.size)) (.int .i64 10) (.agg #[.int .i64 0, .string ⟨#[101]⟩])).run Tryz.prog (w.alloc (.map (Es 9) 9)) = .ok () (w.alloc (.map (Es 10) 10)) := ins w 9 (by decide)
  have i10 : (Instr.mapUpdate 62 (.map (some w.heap.size)) (.int .i64 11) (.agg #[.int .i64 0, .string ⟨#[101]⟩])).run Tryz.prog (w.alloc (.map (Es 10) 10)) = .ok () (w.alloc (.map (Es 11) 11)) := ins w 10 (by decide)
  have i11 : (Instr.mapUpdate 62 (.map (some w.heap.size)) (.int .i64 12) (.agg #[.int .i64 0, .string ⟨#[99]⟩])).run Tryz.prog (w.alloc (.map (Es 11) 11)) = .ok () (w.alloc (.map (Es 12) 12)) := ins w 11 (by decide)
  have i12 : (Instr.mapUpdate 62 (.map (some w.heap.size)) (.int .i64 13) (.agg #[.int .i64 0, .string ⟨#[78]⟩])).run Tryz.prog (w.alloc (.map (Es 12) 12)) = .ok () (w.alloc (.map (Es 13) 13)) := ins w 12 (by decide)
  have i13 : (Instr.mapUpdate 62 (.map (some w.heap.size)) (.int .i64 14) (.agg #[.int .i64 0, .string ⟨#[]⟩])).run Tryz.prog (w.alloc (.map (Es 13) 13)) = .ok () (w.alloc (.map (Es 14) 14)) := ins w 13 (by decide)
  have i14 : (Instr.mapUpdate 62 (.map (some w.heap.size)) (.int .i64 15) (.agg #[.int .i64 2, .string ⟨#[]⟩])).run Tryz.prog (w.alloc (.map (Es 14) 14)) = .ok () (w.alloc (.map (Es 15) 15)) := ins w 14 (by decide)
  have i15 : (Instr.mapUpdate 62 (.map (some w.heap.size)) (.int .i64 16) (.agg #[.int .i64 0, .string ⟨#[]⟩])).run Tryz.prog (w.alloc (.map (Es 15) 15)) = .ok () (w.alloc (.map (Es 16) 16)) := ins w 15 (by decide)
  have i16 : (Instr.mapUpdate 62 (.map (some w.heap.size)) (.int .i64 17) (.agg #[.int .i64 1, .string ⟨#[]⟩])).run Tryz.prog (w.alloc (.map (Es 16) 16)) = .ok () (w.alloc (.map (Es 17) 17)) := ins w 16 (by decide)
  have i17 : (Instr.mapUpdate 62 (.map (some w.heap.size)) (.int .i64 18) (.agg #[.int .i64 3, .string ⟨#[101]⟩])).run Tryz.prog (w.alloc (.map (Es 17) 17)) = .ok () (w.alloc (.map (Es 18) 18)) := ins w 17 (by decide)
  have i18 : (Instr.mapUpdate 62 (.map (some w.heap.size)) (.int .i64 19) (.agg #[.int .i64 4, .string ⟨#[101, 101]⟩])).run Tryz.prog (w.alloc (.map (Es 18) 18)) = .ok () (w.alloc (.map (Es 19) 19)) := ins w 18 (by decide)
  have i19 : (Instr.mapUpdate 62 (.map (some w.heap.size)) (.int .i64 20) (.agg #[.int .i64 1, .string ⟨#[101]⟩])).run Tryz.prog (w.alloc (.map (Es 19) 19)) = .ok () (w.alloc (.map (Es 20) 20)) := ins w 19 (by decide)
  have i20 : (Instr.mapUpdate 62 (.map (some w.heap.size)) (.int .i64 21) (.agg #[.int .i64 0, .string ⟨#[101, 101]⟩])).run Tryz.prog (w.alloc (.map (Es 20) 20)) = .ok () (w.alloc (.map (Es 21) 21)) := ins w 20 (by decide)
  have i21 : (Instr.mapUpdate 62 (.map (some w.heap.size)) (.int .i64 22) (.agg #[.int .i64 1, .string ⟨#[69]⟩])).run Tryz.prog (w.alloc (.map (Es 21) 21)) = .ok () (w.alloc (.map (Es 22) 22)) := ins w 21 (by decide)
  have i22 : (Instr.mapUpdate 62 (.map (some w.heap.size)) (.int .i64 23) (.agg #[.int .i64 1, .string ⟨#[]⟩])).run Tryz.prog (w.alloc (.map (Es 22) 22)) = .ok () (w.alloc (.map (Es 23) 23)) := ins w 22 (by decide)
  have i23 : (Instr.mapUpdate 62 (.map (some w.heap.size)) (.int .i64 24) (.agg #[.int .i64 0, .string ⟨#[101]⟩])).run Tryz.prog (w.alloc (.map (Es 23) 23)) = .ok () (w.alloc (.map (Es 24) 24)) := ins w 23 (by decide)
  have i24 : (Instr.mapUpdate 62 (.map (some w.heap.size)) (.int .i64 25) (.agg #[.int .i64 0, .string ⟨#[101]⟩])).run Tryz.prog (w.alloc (.map (Es 24) 24)) = .ok () (w.alloc (.map (Es 25) 25)) := ins w 24 (by decide)
  have i25 : (Instr.mapUpdate 62 (.map (some w.heap.size)) (.int .i64 26) (.agg #[.int .i64 0, .string ⟨#[]⟩])).run Tryz.prog (w.alloc (.map (Es 25) 25)) = .ok () (w.alloc (.map (Es 26) 26)) := ins w 25 (by decide)
  have i26 : (Instr.mapUpdate 62 (.map (some w.heap.size)) (.int .i64 27) (.agg #[.int .i64 0, .string ⟨#[101]⟩])).run Tryz.prog (w.alloc (.map (Es 26) 26)) = .ok () (w.alloc (.map (Es 27) 27)) := ins w 26 (by decide)
  have i27 : (Instr.mapUpdate 62 (.map (some w.heap.size)) (.int .i64 28) (.agg #[.int .i64 0, .string ⟨#[]⟩])).run Tryz.prog (w.alloc (.map (Es 27) 27)) = .ok () (w.alloc (.map (Es 28) 28)) := ins w 27 (by decide)
  have i28 : (Instr.mapUpdate 62 (.map (some w.heap.size)) (.int .i64 29) (.agg #[.int .i64 0, .string ⟨#[101]⟩])).run Tryz.prog (w.alloc (.map (Es 28) 28)) = .ok () (w.alloc (.map (Es 29) 29)) := ins w 28 (by decide)
  have i29 : (Instr.mapUpdate 62 (.map (some w.heap.size)) (.int .i64 30) (.agg #[.int .i64 0, .string ⟨#[]⟩])).run Tryz.prog (w.alloc (.map (Es 29) 29)) = .ok () (w.alloc (.map (Es 30) 30)) := ins w 29 (by decide)
  go_enter Tryz.func32, Tryz.ntmps32
  go_wp2
  go_ret
  exact ⟨rfl, rfl⟩
end Go.Proofs.YtnkjgggbiokfbaaGreatDoor.T5
namespace Go.Proofs.YtnkjgggbiokfbaaGreatDoor.T5
open Go.RowKit
set_option maxRecDepth 100000
set_option linter.unusedVariables false
set_option linter.unusedSimpArgs false

theorem take_in {n : Nat} : ∀ (ks : List Int) (T T' : List Bool), takeL n ks T = some T' → ∀ k ∈ ks, 0 ≤ k ∧ k < n
  | [], T, T', h, k, hk => by simp at hk
  | q :: r, T, T', h, k, hk => by
    simp only [takeL] at h
    split at h
    · cases h
    · rename_i hn
      rcases List.mem_cons.1 hk with rfl | hk
      · omega
      · exact take_in r _ _ h k hk
theorem lookup_mem {k : Int} {v : Nat × List UInt8} : ∀ (l : List (Int × Nat × List UInt8)), l.lookup k = some v → (k, v) ∈ l
  | [], h => by cases h
  | (a, b) :: l, h => by
    rw [List.lookup_cons] at h
    cases hk : (k == a) with
    | true => rw [hk] at h; cases h; have : k = a := by simpa using hk
              subst this; simp
    | false => rw [hk] at h; exact List.mem_cons_of_mem _ (lookup_mem l h)
theorem want_fine {k : Int} {t : Nat} {ls : List UInt8} (h : wantL k = some (t, ls)) : t ≤ 4 ∧ ls.length ≤ 3 ∧ ∀ c ∈ ls, c.toNat < 128 := by
  have : ∀ x ∈ wantsL, x.2.1 ≤ 4 ∧ x.2.2.length ≤ 3 ∧ ∀ c ∈ x.2.2, c.toNat < 128 := by decide
  exact this _ (lookup_mem _ h)
theorem ascii_of {ls : List UInt8} (h : ∀ c ∈ ls, c.toNat < 128) : ∀ i (hi : i < (⟨ls.toArray⟩ : ByteArray).size), ((⟨ls.toArray⟩ : ByteArray)[i]'hi).toNat < 128 := by
  intro i hi
  have hi' : i < ls.length := hi
  exact h _ (List.getElem_mem hi')

def errOf {α : Type} : Except Nat α → Nat
  | .error e => e
  | .ok _ => 0

set_option maxRecDepth 100000 in
set_option maxHeartbeats 2000000 in
theorem checkNode_any (B : Nat) (L : List Nd) (w : World) (a : Option Addr) (len cap : Nat) (hlen : L.length = len) (hL : NAt B w a L) (hm : len ≤ maxLen) (hB : B ≤ w.heap.size)
    (i : Nat) (x : Nd) (hx : L[i]? = some x) (mg g : Nat) (T : List Bool) (tc : Nat) (hM : WM w mg) (hT : TB w g T) (hTl : T.length = len) (hg : B ≤ g) (TT : Tabs w) (h2 : 7 ≤ g) (hmg : mg ≠ g) :
    Calls Tryz.prog 33 #[.slice a len cap, .int .i64 i, .map (some mg), .slice (some ⟨g, 0, none⟩) len tc] w fun e w' => e = .returned (.int .i64 (errOf (nodeE L i x T))) ∧ Fr [g] w w' ∧ ∀ T', nodeE L i x T = .ok T' → TB w' g T' := by
  have hil : i < len := by rw [← hlen]; exact (List.getElem?_eq_some_iff.1 hx).1
  obtain ⟨b, o, rfl, hb, hN⟩ := hL i x hx
  have hbl : b < w.heap.size := by omega
  have HN : Hid (nodeE L i x T = nodeE L i x T) := rfl
  have hm' := hm
  unfold maxLen at hm'
  cases hw : wantL x.kind with
  | none =>
    have HE : Hid (nodeE L i x T = .error 50) := by unfold Hid nodeE; rw [hw]
    have hlk := hM.none hw
    obtain ⟨c0, c1, c2, c3, hk, ht, hkl, hkc, hkn⟩ := hN
    rw [HE.out]
    clear HN hL HE
    go_enter Tryz.func33, Tryz.ntmps33
    go_wp2
    go_ret
    exact ⟨rfl, (Fr.refl _ _).alloc _, fun T' h => by cases h⟩
  | some tl =>
    obtain ⟨t, ls⟩ := tl
    have hlk := hM.some hw
    obtain ⟨ft, fl, fc⟩ := want_fine hw
    by_cases hp : x.pl < 0
    · have HE : Hid (nodeE L i x T = .error 50) := by unfold Hid nodeE; rw [hw]; simp [hp]
      obtain ⟨c0, c1, c2, c3, hk, ht, hkl, hkc, hkn⟩ := hN
      rw [HE.out]
      clear HN hL HE
      go_enter Tryz.func33, Tryz.ntmps33
      go_wp2
      go_ret
      exact ⟨rfl, (Fr.refl _ _).alloc _, fun T' h => by cases h⟩
    · have f0 : Fr [] w (w.alloc (.cells #[.int .i64 t, .string ⟨ls.toArray⟩] 91)) := (Fr.refl _ _).alloc _
      have f0' : Fr [g] w (w.alloc (.cells #[.int .i64 t, .string ⟨ls.toArray⟩] 91)) := (Fr.refl _ _).alloc _
      have b0 : (w.alloc (.cells #[.int .i64 t, .string ⟨ls.toArray⟩] 91)).heap[w.heap.size]? = some (.cells #[.int .i64 t, .string ⟨ls.toArray⟩] 91) := heap_alloc_new w _
      have TK := take_any B x.ks x.a x.ks.length x.c i _ rfl (hN.k.fr f0 (by simp)) hN.kl g T len tc (hT.fr f0 (by simp)) hTl (by omega) hm hg
      have HG : Hid (g < w.heap.size) := hT.lt
      have hNN := hN
      obtain ⟨c0, c1, c2, c3, hk, ht, hkl, hkc, hkn⟩ := hN
      go_enter Tryz.func33, Tryz.ntmps33
      go_wp2_with fail
      refine TK.mono ?_
      rintro e w1 ⟨rfl, f1, hT1⟩
      have F1 : Fr [g] w w1 := f0'.trans f1
      have hk1 : w1.heap[w.heap.size]? = some (.cells #[.int .i64 t, .string ⟨ls.toArray⟩] 91) := (f1.block w.heap.size (by simp) (by have := HG.out; simp; omega)).trans b0
      clear TK hlk f0 f0' f1 b0 hk
      cases hk' : takeL i x.ks T with
      | none =>
        have HE : Hid (nodeE L i x T = .error 50) := by unfold Hid nodeE; rw [hw]; simp [hp, hk']
        clear HN hL
        go_wp2
        go_ret
        exact ⟨by rw [HE.out]; rfl, F1, fun T' h => by rw [HE.out] at h; cases h⟩
      | some T' =>
        have hT2 := hT1 T' hk'
        have hin := take_in _ _ _ hk'
        have N1 := hNN.fr F1 hb (by simpa using hg)
        have L1 := hL.fr F1 (by simpa using hg)
        have TT1 := TT.fr F1 (by simpa using h2)
        have hz1 := F1.size
        have v0 : ∀ w', Fr [] w1 w' → w'.cell? ⟨w.heap.size, 0, none⟩ = some (.int .i64 t) := fun w' f => by
          have := (f.block _ (Array.getElem?_eq_some_iff.1 hk1).1 (by simp)).trans hk1
          simp [World.cell?, this]
        have v1 : ∀ w', Fr [] w1 w' → w'.cell? ⟨w.heap.size, 1, none⟩ = some (.string ⟨ls.toArray⟩) := fun w' f => by
          have := (f.block _ (Array.getElem?_eq_some_iff.1 hk1).1 (by simp)).trans hk1
          simp [World.cell?, this]
        have n1 : ∀ w', Fr [] w1 w' → w'.cell? ⟨b, o + i * 4 + 1, none⟩ = some (.string x.text) := fun w' f => f.cell1 N1.c1 (by simp)
        have n2 : ∀ w', Fr [] w1 w' → w'.cell? ⟨b, o + i * 4 + 2, none⟩ = some (.slice x.a x.ks.length x.c) := fun w' f => f.cell1 N1.c2 (by simp)
        have C34 := fun w' (f : Fr [] w1 w') => textFits_any t ft x.text w' ht (TT1.fr f (by simp))
        have C35 := fun w' (f : Fr [] w1 w') => kidsFit_any ⟨ls.toArray⟩ (by show ls.length ≤ _; unfold maxLen; omega) (ascii_of fc) B L w' (some ⟨b, o, none⟩) len cap hlen (L1.fr f (by simp)) hm (by have := f.size; omega) x.ks x.a x.ks.length x.c rfl ((N1.fr f hb (by simp)).k) hkl hkc hkn (fun k hk => by have := hin k hk; omega)
        have HT2 : Hid (TB w1 g T') := hT2
        clear hT1 hT2 hin N1 L1 TT1 hNN hL c0 c1 c2 c3 hlen hTl hx
        have HE : Hid (nodeE L i x T = if textL t x.text = false then .error 52 else if fitL ls (x.ks.map (kd L)) = false then .error 53 else .ok T') := by unfold Hid nodeE; rw [hw]; simp only [hk']; rw [if_neg (by omega)]
        clear HN hk' hw
        generalize hRt : textL t x.text = rt at *
        generalize hRf : fitL ls (x.ks.map (kd L)) = rf at *
        have hb1 : b < w1.heap.size := by omega
        go_wp2
        go_region_held3 (fun w' => Fr [] w1 w')
          (with_reducible (first | assumption | exact Fr.drew (Fr.refl _ _)))
          (first
            | (go_at_call 61; refine (C34 _ (by assumption)).mono ?_; rintro e w10 ⟨rfl, rfl⟩))
        all_goals
          rename_i hH
          cases rt with
          | false =>
            have HR : Hid (nodeE L i x T = .error 52) := HE
            clear HE C34 C35 v0 v1 n1 n2 hRt hRf
            go_wp2
            go_ret
            exact ⟨by rw [HR.out]; rfl, F1.drew, fun T'' h => by rw [HR.out] at h; cases h⟩
          | true =>
            have HE2 : Hid (nodeE L i x T = if rf = false then .error 53 else .ok T') := HE
            clear HE C34 hRt hRf
            go_wp2
            go_region_held3 (fun w' => Fr [] w1 w')
              (with_reducible (first | assumption | exact Fr.drew (Fr.drew (Fr.refl _ _))))
              (first
                | (go_at_call 62; refine (C35 _ (by assumption)).mono ?_; rintro e w10 ⟨rfl, f10⟩; have F10 := Fr.trans (by assumption) f10))
            all_goals
              rename_i hH2
              have FF : ∀ w', Fr [] w1 w' → Fr [g] w w' := fun w' f => F1.trans (f.sub (by simp))
              cases rf with
              | false =>
                have HR : Hid (nodeE L i x T = .error 53) := HE2
                clear HE2 C35 v0 v1 n1 n2
                go_wp2
                go_ret
                exact ⟨by rw [HR.out]; rfl, FF _ hH2, fun T'' h => by rw [HR.out] at h; cases h⟩
              | true =>
                have HR : Hid (nodeE L i x T = .ok T') := HE2
                clear HE2 C35 v0 v1 n1 n2
                go_wp2
                go_ret
                exact ⟨by rw [HR.out]; rfl, FF _ hH2, fun T'' h => by rw [HR.out] at h; injection h with h; rw [← h]; exact HT2.out.fr hH2 (by simp)⟩
end Go.Proofs.YtnkjgggbiokfbaaGreatDoor.T5
namespace Go.Proofs.YtnkjgggbiokfbaaGreatDoor.T5
open Go.RowKit
set_option maxRecDepth 100000
set_option linter.unusedVariables false
set_option linter.unusedSimpArgs false

/-- A row of numbers, of its own. -/
def IB (w : World) (g : Nat) (D : List Int) : Prop := w.heap[g]? = some (.cells (D.map (Value.int .i64)).toArray 3 (0, 0))
theorem IB.fr {w w' : World} {g : Nat} {D : List Int} {S : List Nat} (h : IB w g D) (f : Fr S w w') (hg : g ∉ S) : IB w' g D :=
  (f.block g (Array.getElem?_eq_some_iff.1 h).1 hg).trans h
theorem IB.lt {w : World} {g : Nat} {D : List Int} (h : IB w g D) : g < w.heap.size := (Array.getElem?_eq_some_iff.1 h).1
theorem IB.fz {w : World} {g : Nat} {D : List Int} (h : IB w g D) (i : Nat) : w.frozen? ⟨g, i, none⟩ = false := by unfold IB at h; simp [World.frozen?, h]
theorem IB.cell {w : World} {g : Nat} {D : List Int} (h : IB w g D) {i : Nat} {v : Int} (hi : D[i]? = some v) : w.cell? ⟨g, i, none⟩ = some (.int .i64 v) := by
  unfold IB at h
  simp [World.cell?, h, hi]
theorem IB.set {w : World} {g : Nat} {D : List Int} (h : IB w g D) (i : Nat) (v : Int) : IB (w.setCell ⟨g, i, none⟩ (.int .i64 v)) g (D.set i v) := by
  unfold IB
  rw [heap_setCell_same _ _ _ _ _ _ h]
  congr 2
  simp [List.map_set]

theorem info3 : (Tryz.prog.info? 3).map (fun i => (i.zero, i.size, i.bytes)) = some (some (.int .i64 0), 1, 8) := by kernel_rfl
theorem info4 : (Tryz.prog.info? 4).map (fun i => (i.zero, i.size, i.bytes)) = some (some (.bool false), 1, 1) := by kernel_rfl
theorem made_one (z : Value) (n : Nat) : madeCells #[z] n = (List.replicate n z).toArray := by
  apply Array.ext'
  rw [toList_madeCells_one]
/-- Rows that are made. -/
theorem make_ints (w : World) (n : Nat) (h : n ≤ 35184372088832) : (Instr.makeSlice 35 (.int .i64 n) (.int .i64 n)).run Tryz.prog w = .ok (.slice (some ⟨w.heap.size, 0, none⟩) n n) (w.alloc (.cells ((List.replicate n (0 : Int)).map (Value.int .i64)).toArray 3)) := by
  obtain ⟨i, hi, hz, hs, hb⟩ := info_parts info3
  have := run_make (P := Tryz.prog) w 35 3 i (.int .i64 0) Tryz.underlying35 hi hz .i64 .i64 n n (by omega) (Int.le_refl _) (by rw [hb]; omega) (by omega)
  rw [this, hs]
  simp [Value.cells, made_one]
theorem make_bools (w : World) (n : Nat) (h : n ≤ 35184372088832) : (Instr.makeSlice 64 (.int .i64 n) (.int .i64 n)).run Tryz.prog w = .ok (.slice (some ⟨w.heap.size, 0, none⟩) n n) (w.alloc (.cells ((List.replicate n false).map Value.bool).toArray 4)) := by
  obtain ⟨i, hi, hz, hs, hb⟩ := info_parts info4
  have := run_make (P := Tryz.prog) w 64 4 i (.bool false) Tryz.underlying64 hi hz .i64 .i64 n n (by omega) (Int.le_refl _) (by rw [hb]; omega) (by omega)
  rw [this, hs]
  simp [Value.cells, made_one]

/-- The row of depths while node i is at work. -/
def rowD (L : List Nd) (len i : Nat) (d : Int) : List Int := (depths L i).map (fun (n : Nat) => (n : Int)) ++ d :: List.replicate (len - i - 1) 0
theorem rowD_at {L : List Nd} {len i : Nat} {d : Int} : (rowD L len i d)[i]? = some d := by
  unfold rowD
  rw [List.getElem?_append_right (by simp [depths_length])]
  simp [depths_length]
theorem rowD_low {L : List Nd} {len i k : Nat} {d : Int} (h : k < i) : (rowD L len i d)[k]? = some (((depths L i).getD k 0 : Nat) : Int) := by
  unfold rowD
  rw [List.getElem?_append_left (by simp [depths_length]; exact h)]
  simp [List.getD_eq_getElem?_getD, depths_length, h]
theorem rowD_set {L : List Nd} {len i : Nat} {d d' : Int} : (rowD L len i d).set i d' = rowD L len i d' := by
  unfold rowD
  rw [List.set_append_right _ _ (by simp [depths_length])]
  simp [depths_length]
theorem rowD_next {L : List Nd} {len i : Nat} {x : Nd} (hx : L[i]? = some x) (hl : i + 1 < len) : rowD L len i ((kidD (depths L i) i x.ks 1 : Nat) : Int) = rowD L len (i + 1) 0 := by
  unfold rowD
  rw [depths, hx]
  simp only [List.map_append, List.map_cons, List.map_nil, List.append_assoc, List.singleton_append]
  rw [show len - i - 1 = (len - (i + 1) - 1) + 1 by omega, List.replicate_succ]
theorem rowD_zero {L : List Nd} {len : Nat} (h : 0 < len) : List.replicate len (0 : Int) = rowD L len 0 0 := by
  unfold rowD
  simp only [depths, List.map_nil, List.nil_append]
  rw [show len = (len - 0 - 1) + 1 by omega, List.replicate_succ]
  simp
theorem rowD_end {L : List Nd} {len : Nat} {x : Nd} (hl : L.length = len) (hx : L[len - 1]? = some x) (h : 0 < len) : kidD (depths L (len - 1)) (len - 1) x.ks 1 = deepL L := by
  unfold deepL
  rw [hl]
  conv => rhs; rw [show len = len - 1 + 1 by omega]
  rw [depths, hx]
  simp [List.getD_eq_getElem?_getD, depths_length]

set_option maxRecDepth 100000 in
set_option maxHeartbeats 2000000 in
theorem deep_any (B : Nat) (L : List Nd) (w : World) (a : Option Addr) (len cap : Nat) (hlen : L.length = len) (hL : NAt B w a L) (hm : len ≤ 2600000000000) (hB : B ≤ w.heap.size) :
    Calls Tryz.prog 25 #[.slice a len cap] w fun e w' => e = .returned (.int .i64 (deepL L)) ∧ Fr [] w w' := by
  have HL : Hid (L.length = len) := hlen
  have HB : Hid (B ≤ w.heap.size) := hB
  clear hB
  by_cases h0 : len = 0
  · have : L = [] := by rw [← List.length_eq_zero_iff, hlen, h0]
    subst this h0
    go_enter Tryz.func25, Tryz.ntmps25
    go_wp2
    go_ret
    exact ⟨rfl, Fr.refl _ _⟩
  · clear hlen
    have hmk := make_ints w len (by omega)
    have I0 : IB (w.alloc (.cells ((List.replicate len (0 : Int)).map (Value.int .i64)).toArray 3)) w.heap.size (rowD L len 0 0) := by rw [← rowD_zero (by omega)]; exact heap_alloc_new w _
    have f0 : Fr [] w (w.alloc (.cells ((List.replicate len (0 : Int)).map (Value.int .i64)).toArray 3)) := (Fr.refl _ _).alloc _
    generalize w.alloc (.cells ((List.replicate len (0 : Int)).map (Value.int .i64)).toArray 3) = w0 at *
    have hpos : 0 < len := by omega
    have h0' : ((len : Int) == 0) = false := beq_int_false (by omega)
    clear h0
    go_enter Tryz.func25, Tryz.ntmps25
    go_wp2
    go_loopw [15] (fun i wr => ∃ p : Nat, p ≤ len ∧ i = .int .i64 p ∧ Fr [] w wr ∧ (p < len → IB wr w.heap.size (rowD L len p 0)) ∧ (p = len → IB wr w.heap.size (rowD L len (len - 1) (deepL L : Nat)))) (fun i _ => len - (intOf i).toNat)
    case atStart => exact ⟨0, Nat.zero_le _, rfl, f0, fun _ => I0, fun h => by omega⟩
    case round =>
      obtain ⟨p, hp, rfl, fw, hI, hJ⟩ := hrel
      clear I0 hmk
      by_cases hlt : p < len
      · have hI := hI hlt
        clear hJ
        have hx : L[p]? = some (L[p]'(by rw [HL.out]; exact hlt)) := List.getElem?_eq_getElem _
        generalize L[p]'(by rw [HL.out]; exact hlt) = x at hx
        have HX : Hid (∀ m : Nat, p + 1 < len → kidD (depths L p) p x.ks 1 = m → rowD L len p (m : Nat) = rowD L len (p + 1) 0) := fun m h e => by rw [← e]; exact rowD_next hx h
        have HY : Hid (∀ m : Nat, p + 1 = len → kidD (depths L p) p x.ks 1 = m → rowD L len p (m : Nat) = rowD L len (len - 1) (deepL L : Nat)) := fun m h e => by
          have hp1 : p = len - 1 := by omega
          subst hp1
          rw [← e, rowD_end HL.out hx (by omega)]
        obtain ⟨b, o, rfl, hb, hN⟩ := (hL.fr fw (by simp)) p x hx
        obtain ⟨kind, text, xa, xc, ks, pl⟩ := x
        simp only at HX HY
        have hc0 := hI.cell rowD_at
        have hfz := hI.fz p
        have hI1 := hI.set p 1
        rw [rowD_set] at hI1
        have fw1 := fw.setCell (p := ⟨w.heap.size, p, none⟩) (.inr (Nat.le_refl _)) (.int .i64 1)
        have hbw : b ≠ w.heap.size := by have := HB.out; omega
        have f1 : Fr [w.heap.size] wr (wr.setCell ⟨w.heap.size, p, none⟩ (.int .i64 1)) := (Fr.refl _ _).setCell (p := ⟨w.heap.size, p, none⟩) (.inl (by simp)) _
        have hN1 := hN.fr f1 hb (by simpa using HB.out)
        have n2 : _ = some (Value.slice xa ks.length xc) := hN1.c2
        have hkl : ks.length ≤ maxLen := hN1.kl
        have hkk : KAt B _ xa ks := hN1.k
        unfold maxLen at hkl
        clear hI hN f1 hN1 hx
        have hb1 : ∀ d ∈ depths L p, d ≤ p := depths_le L p
        have HD : ∀ r : Nat, Hid ((depths L p).getD r 0 ≤ p) := fun r => getD_le hb1 r
        clear hb1
        go_wp2
        generalize wr.setCell ⟨w.heap.size, p, none⟩ (.int .i64 1) = w1 at *
        go_loopw [27] (fun j wq => ∃ q d : Nat, q ≤ ks.length ∧ j = .int .i64 q ∧ Fr [w.heap.size] w1 wq ∧ Fr [] w wq ∧ IB wq w.heap.size (rowD L len p (d : Nat)) ∧ d ≤ p + 1 ∧ Hid (kidD (depths L p) p (ks.drop q) d = kidD (depths L p) p ks 1)) (fun j _ => ks.length - (intOf j).toNat)
        case atStart => exact ⟨0, 1, Nat.zero_le _, rfl, Fr.refl _ _, fw1, hI1, by omega, rfl⟩
        case round =>
          obtain ⟨q, d, hq, rfl, fq, fqw, hIq, hd, he⟩ := hrel
          clear hI1 hc0 hfz n2
          by_cases hql : q < ks.length
          · have hk : ks[q]? = some ks[q] := List.getElem?_eq_getElem hql
            have hdr := List.drop_eq_getElem_cons hql
            generalize ks[q] = k at hk hdr
            obtain ⟨kb, ko, rfl, hkb, hcell⟩ := (hkk.fr fq (by simpa using HB.out)) q k hk
            have HE : Hid (kidD (depths L p) p (ks.drop (q + 1)) (if 0 ≤ k ∧ k < (p : Int) then max d (1 + (depths L p).getD k.toNat 0) else d) = kidD (depths L p) p ks 1) := by unfold Hid; rw [← he.out, hdr]; rfl
            clear hk hdr he
            by_cases h1 : k < 0
            · rw [if_neg (by omega)] at HE
              have HE2 : Hid _ := HE.out
              clear HE
              go_wp2
              go_roundw
              case rel => exact ⟨q + 1, d, hql, by go_num, fq, fqw, hIq, hd, HE2⟩
              case measure => simp [intOf]; omega
            · by_cases h2 : (p : Int) ≤ k
              · rw [if_neg (by omega)] at HE
                have HE2 : Hid _ := HE.out
                clear HE
                go_wp2
                go_roundw
                case rel => exact ⟨q + 1, d, hql, by go_num, fq, fqw, hIq, hd, HE2⟩
                case measure => simp [intOf]; omega
              · obtain ⟨r, rfl⟩ := Int.eq_ofNat_of_zero_le (show 0 ≤ k by omega)
                have hr : r < p := by omega
                rw [if_pos (by omega)] at HE
                simp only [Int.toNat_natCast] at HE
                have HE2 : Hid _ := HE.out
                clear HE
                have c1 := hIq.cell rowD_at
                have c2 := hIq.cell (rowD_low hr)
                have z1 := hIq.fz p
                have hS := hIq.set p ((max d (1 + (depths L p).getD r 0) : Nat) : Int)
                rw [rowD_set] at hS
                have hD := (HD r).out
                generalize (depths L p).getD r 0 = D at *
                go_wp2
                go_region
                have ev : max (d : Int) (1 + (D : Int)) = ((max d (1 + D) : Nat) : Int) := by omega
                rw [ev]
                have hmx : max d (1 + D) ≤ p + 1 := by omega
                have gq := (fq.setCell (p := ⟨w.heap.size, p, none⟩) (.inl (by simp)) (.int .i64 ((max d (1 + D) : Nat) : Int))).drew
                have gw := (fqw.setCell (p := ⟨w.heap.size, p, none⟩) (.inr (Nat.le_refl _)) (.int .i64 ((max d (1 + D) : Nat) : Int))).drew
                have hS' := hS.fr ((Fr.refl [] _).drew) (by simp)
                clear hS c1 c2 z1
                go_wp2
                go_roundw
                case rel => exact ⟨q + 1, _, hql, by go_num, gq, gw, hS', hmx, HE2⟩
                case measure => simp [intOf]; omega
          · have HE : Hid (d = kidD (depths L p) p ks 1) := by unfold Hid; rw [← he.out, List.drop_of_length_le (by omega)]; rfl
            go_wp2
            go_roundw
            case rel =>
              refine ⟨p + 1, hlt, by go_num, fqw, fun h => ?_, fun h => ?_⟩
              · rw [← HX.out d h HE.out.symm]; exact hIq
              · rw [← HY.out d h HE.out.symm]; exact hIq
            case measure => simp [intOf]; omega
      · have hpe : p = len := by omega
        have hI := hJ hpe
        have hx : L[len - 1]? = some (L[len - 1]'(by rw [HL.out]; omega)) := List.getElem?_eq_getElem _
        have hc := hI.cell rowD_at
        go_wp2
        go_ret
        exact ⟨rfl, fw⟩

set_option maxRecDepth 100000 in
set_option maxHeartbeats 2000000 in
theorem rdeep_any (B : Nat) (L : List Nd) (w : World) (a : Option Addr) (len cap : Nat) (hlen : L.length = len) (hL : NAt B w a L) (hm : len ≤ 2600000000000) (hB : B ≤ w.heap.size) :
    Calls Tryz.prog 31 #[.slice a len cap] w fun e w' => e = .returned (.int .i64 (deepL L)) ∧ Fr [] w w' := by
  have HL : Hid (L.length = len) := hlen
  have HB : Hid (B ≤ w.heap.size) := hB
  clear hB
  by_cases h0 : len = 0
  · have : L = [] := by rw [← List.length_eq_zero_iff, hlen, h0]
    subst this h0
    have hmk : (Instr.makeSlice 35 (.int .i64 0) (.int .i64 0)).run Tryz.prog w = .ok (.slice (some ⟨w.heap.size, 0, none⟩) 0 0) (w.alloc (.cells ((List.replicate 0 (0 : Int)).map (Value.int .i64)).toArray 3)) := make_ints w 0 (by omega)
    have f0 : Fr [] w (w.alloc (.cells ((List.replicate 0 (0 : Int)).map (Value.int .i64)).toArray 3)) := (Fr.refl _ _).alloc _
    generalize w.alloc (.cells ((List.replicate 0 (0 : Int)).map (Value.int .i64)).toArray 3) = w0 at *
    go_enter Tryz.func31, Tryz.ntmps31
    go_wp2
    go_loopw [13] (fun i wr => i = .int .i64 0 ∧ Fr [] w wr) (fun i _ => 0)
    case atStart => exact ⟨rfl, f0⟩
    case round =>
      obtain ⟨rfl, fw⟩ := hrel
      go_wp2
      go_ret
      exact ⟨rfl, fw⟩
  · clear hlen
    have hmk := make_ints w len (by omega)
    have I0 : IB (w.alloc (.cells ((List.replicate len (0 : Int)).map (Value.int .i64)).toArray 3)) w.heap.size (rowD L len 0 0) := by rw [← rowD_zero (by omega)]; exact heap_alloc_new w _
    have f0 : Fr [] w (w.alloc (.cells ((List.replicate len (0 : Int)).map (Value.int .i64)).toArray 3)) := (Fr.refl _ _).alloc _
    generalize w.alloc (.cells ((List.replicate len (0 : Int)).map (Value.int .i64)).toArray 3) = w0 at *
    have hpos : 0 < len := by omega
    have h0' : ((len : Int) == 0) = false := beq_int_false (by omega)
    clear h0
    go_enter Tryz.func31, Tryz.ntmps31
    go_wp2
    go_loopw [13] (fun i wr => ∃ p : Nat, p ≤ len ∧ i = .int .i64 p ∧ Fr [] w wr ∧ (p < len → IB wr w.heap.size (rowD L len p 0)) ∧ (p = len → IB wr w.heap.size (rowD L len (len - 1) (deepL L : Nat)))) (fun i _ => len - (intOf i).toNat)
    case atStart => exact ⟨0, Nat.zero_le _, rfl, f0, fun _ => I0, fun h => by omega⟩
    case round =>
      obtain ⟨p, hp, rfl, fw, hI, hJ⟩ := hrel
      clear I0 hmk
      by_cases hlt : p < len
      · have hI := hI hlt
        clear hJ
        have hx : L[p]? = some (L[p]'(by rw [HL.out]; exact hlt)) := List.getElem?_eq_getElem _
        generalize L[p]'(by rw [HL.out]; exact hlt) = x at hx
        have HX : Hid (∀ m : Nat, p + 1 < len → kidD (depths L p) p x.ks 1 = m → rowD L len p (m : Nat) = rowD L len (p + 1) 0) := fun m h e => by rw [← e]; exact rowD_next hx h
        have HY : Hid (∀ m : Nat, p + 1 = len → kidD (depths L p) p x.ks 1 = m → rowD L len p (m : Nat) = rowD L len (len - 1) (deepL L : Nat)) := fun m h e => by
          have hp1 : p = len - 1 := by omega
          subst hp1
          rw [← e, rowD_end HL.out hx (by omega)]
        obtain ⟨b, o, rfl, hb, hN⟩ := (hL.fr fw (by simp)) p x hx
        obtain ⟨kind, text, xa, xc, ks, pl⟩ := x
        simp only at HX HY
        obtain ⟨q0, q1, q2, q3, hkk0, _, hkl, _, _⟩ := hN
        simp only at q0 q1 q2 q3 hkk0 hkl
        have hc0 := hI.cell rowD_at
        have hfz := hI.fz p
        have hlw := hI.lt
        have f1 : Fr [w.heap.size] wr ((wr.setCell ⟨w.heap.size, p, none⟩ (.int .i64 1)).alloc (.cells #[.int .i64 kind, .string text, .slice xa ks.length xc, .int .i64 pl] 37)) := ((Fr.refl _ _).setCell (p := ⟨w.heap.size, p, none⟩) (.inl (by simp)) _).alloc _
        have fw1 : Fr [] w ((wr.setCell ⟨w.heap.size, p, none⟩ (.int .i64 1)).alloc (.cells #[.int .i64 kind, .string text, .slice xa ks.length xc, .int .i64 pl] 37)) := (fw.setCell (p := ⟨w.heap.size, p, none⟩) (.inr (Nat.le_refl _)) (.int .i64 1)).alloc _
        have hI1 := hI.set p 1
        rw [rowD_set] at hI1
        have hI2 : IB ((wr.setCell ⟨w.heap.size, p, none⟩ (.int .i64 1)).alloc (.cells #[.int .i64 kind, .string text, .slice xa ks.length xc, .int .i64 pl] 37)) w.heap.size (rowD L len p 1) := hI1.fr ((Fr.refl [] _).alloc _) (by simp)
        have hkk := hkk0.fr f1 (by simpa using HB.out)
        unfold maxLen at hkl
        clear hI hI1 hx hkk0
        have hb1 : ∀ d ∈ depths L p, d ≤ p := depths_le L p
        have HD : ∀ r : Nat, Hid ((depths L p).getD r 0 ≤ p) := fun r => getD_le hb1 r
        clear hb1
        go_wp2
        generalize (wr.setCell ⟨w.heap.size, p, none⟩ (.int .i64 1)).alloc (.cells #[.int .i64 kind, .string text, .slice xa ks.length xc, .int .i64 pl] 37) = w1 at *
        go_loopw [24] (fun j wq => ∃ q d : Nat, q ≤ ks.length ∧ j = .int .i64 q ∧ Fr [w.heap.size] w1 wq ∧ Fr [] w wq ∧ IB wq w.heap.size (rowD L len p (d : Nat)) ∧ d ≤ p + 1 ∧ Hid (kidD (depths L p) p (ks.drop q) d = kidD (depths L p) p ks 1)) (fun j _ => ks.length - (intOf j).toNat)
        case atStart => exact ⟨0, 1, Nat.zero_le _, rfl, Fr.refl _ _, fw1, hI2, by omega, rfl⟩
        case round =>
          obtain ⟨q, d, hq, rfl, fq, fqw, hIq, hd, he⟩ := hrel
          clear hI2 hc0 hfz q0 q1 q2 q3
          by_cases hql : q < ks.length
          · have hk : ks[q]? = some ks[q] := List.getElem?_eq_getElem hql
            have hdr := List.drop_eq_getElem_cons hql
            generalize ks[q] = k at hk hdr
            obtain ⟨kb, ko, rfl, hkb, hcell⟩ := (hkk.fr fq (by simpa using HB.out)) q k hk
            have HE : Hid (kidD (depths L p) p (ks.drop (q + 1)) (if 0 ≤ k ∧ k < (p : Int) then max d (1 + (depths L p).getD k.toNat 0) else d) = kidD (depths L p) p ks 1) := by unfold Hid; rw [← he.out, hdr]; rfl
            clear hk hdr he
            by_cases h1 : k < 0
            · rw [if_neg (by omega)] at HE
              have HE2 : Hid _ := HE.out
              clear HE
              go_wp2
              go_roundw
              case rel => exact ⟨q + 1, d, hql, by go_num, fq, fqw, hIq, hd, HE2⟩
              case measure => simp [intOf]; omega
            · by_cases h2 : (p : Int) ≤ k
              · rw [if_neg (by omega)] at HE
                have HE2 : Hid _ := HE.out
                clear HE
                go_wp2
                go_roundw
                case rel => exact ⟨q + 1, d, hql, by go_num, fq, fqw, hIq, hd, HE2⟩
                case measure => simp [intOf]; omega
              · obtain ⟨r, rfl⟩ := Int.eq_ofNat_of_zero_le (show 0 ≤ k by omega)
                have hr : r < p := by omega
                rw [if_pos (by omega)] at HE
                simp only [Int.toNat_natCast] at HE
                have HE2 : Hid _ := HE.out
                clear HE
                have c1 := hIq.cell rowD_at
                have c2 := hIq.cell (rowD_low hr)
                have z1 := hIq.fz p
                have hS := hIq.set p ((max d (1 + (depths L p).getD r 0) : Nat) : Int)
                rw [rowD_set] at hS
                have hD := (HD r).out
                generalize (depths L p).getD r 0 = D at *
                go_wp2
                go_region
                have ev : max (d : Int) ((D : Int) + 1) = ((max d (1 + D) : Nat) : Int) := by omega
                rw [ev]
                have hmx : max d (1 + D) ≤ p + 1 := by omega
                have gq := (fq.setCell (p := ⟨w.heap.size, p, none⟩) (.inl (by simp)) (.int .i64 ((max d (1 + D) : Nat) : Int))).drew
                have gw := (fqw.setCell (p := ⟨w.heap.size, p, none⟩) (.inr (Nat.le_refl _)) (.int .i64 ((max d (1 + D) : Nat) : Int))).drew
                have hS' := hS.fr ((Fr.refl [] _).drew) (by simp)
                clear hS c1 c2 z1
                go_wp2
                go_roundw
                case rel => exact ⟨q + 1, _, hql, by go_num, gq, gw, hS', hmx, HE2⟩
                case measure => simp [intOf]; omega
          · have HE : Hid (d = kidD (depths L p) p ks 1) := by unfold Hid; rw [← he.out, List.drop_of_length_le (by omega)]; rfl
            go_wp2
            go_roundw
            case rel =>
              refine ⟨p + 1, hlt, by go_num, fqw, fun h => ?_, fun h => ?_⟩
              · rw [← HX.out d h HE.out.symm]; exact hIq
              · rw [← HY.out d h HE.out.symm]; exact hIq
            case measure => simp [intOf]; omega
      · have hpe : p = len := by omega
        have hI := hJ hpe
        have hx : L[len - 1]? = some (L[len - 1]'(by rw [HL.out]; omega)) := List.getElem?_eq_getElem _
        have hc := hI.cell rowD_at
        go_wp2
        go_ret
        exact ⟨rfl, fw⟩
end Go.Proofs.YtnkjgggbiokfbaaGreatDoor.T5
namespace Go.Proofs.YtnkjgggbiokfbaaGreatDoor.T5
open Go.RowKit
set_option maxRecDepth 100000
set_option linter.unusedVariables false
set_option linter.unusedSimpArgs false

theorem _root_.Go.Proofs.YtnkjgggbiokfbaaGreatDoor.Fr.over {S : List Nat} {a b c : World} (h : Fr [] a b) (k : Fr S b c) (hS : ∀ i, i ∈ S → a.heap.size ≤ i) : Fr [] a c :=
  ⟨k.os.trans h.os, k.tape.trans h.tape, k.output.trans h.output, Nat.le_trans h.size k.size, fun i hi _ => (k.block i (Nat.lt_of_lt_of_le hi h.size) (fun hm => by have := hS i hm; omega)).trans (h.block i hi (by simp))⟩

/-- Whether one of the first n isn't marked. -/
def has0 (T : List Bool) (n : Nat) : Bool := (T.take n).contains false
theorem take_snocB {T : List Bool} {p : Nat} (h : p < T.length) : has0 T (p + 1) = (has0 T p || !(T.getD p false)) := by
  unfold has0
  rw [List.take_add_one, List.getElem?_eq_getElem h]
  simp only [Option.toList_some, List.contains_eq_any_beq, List.any_append, List.any_cons, List.any_nil, Bool.or_false]
  simp [List.getD_eq_getElem?_getD, h]

theorem contains_mono {T : List Bool} {p n : Nat} (h : p ≤ n) (hc : has0 T p = true) : has0 T n = true := by
  unfold has0 at *
  rw [List.contains_iff_mem] at *
  exact List.mem_of_mem_take (by rw [List.take_take, Nat.min_eq_left h]; exact hc : false ∈ (T.take n).take p)

set_option maxRecDepth 100000 in
theorem index_any (w : World) (g : Nat) (T : List Bool) (n cap : Nat) (hT : TB w g T) (hn : n ≤ T.length) (hm : n ≤ maxLen) :
    Calls Tryz.prog 63 #[.slice (some ⟨g, 0, none⟩) n cap, .bool false] w fun e w' => (∃ z : Int, e = .returned (.int .i64 z) ∧ decide (0 ≤ z) = has0 T n) ∧ w' = w := by
  unfold maxLen at hm
  have HN : Hid (n ≤ T.length) := hn
  clear hn
  go_enter Tryz.func63, Tryz.ntmps63
  go_wp2
  go_loop [8] (fun i => ∃ p : Nat, p ≤ n ∧ i = .int .i64 p ∧ Hid (has0 T p = false)) (fun i => n - (intOf i).toNat)
  case atStart => exact ⟨0, Nat.zero_le _, rfl, by unfold Hid has0; simp⟩
  case round =>
    obtain ⟨p, hp, rfl, he⟩ := hrel
    by_cases hlt : p < n
    · have hpl : p < T.length := by have := HN.out; omega
      have hc := hT.cell hpl
      have HS : Hid _ := take_snocB hpl
      clear hpl
      cases hb : T.getD p false with
      | true =>
        rw [hb] at hc
        have HR : Hid (has0 T (p + 1) = false) := by unfold Hid; rw [HS.out, he.out, hb]; rfl
        clear HS hb
        go_wp2
        go_round
        case rel => exact ⟨p + 1, hlt, by go_num, HR⟩
        case measure => simp [intOf]; omega
      | false =>
        rw [hb] at hc
        have HR : Hid (has0 T (p + 1) = true) := by unfold Hid; rw [HS.out, hb]; simp
        clear HS hb
        go_wp2
        go_ret
        exact ⟨⟨p, rfl, by rw [contains_mono hlt HR.out]; simp⟩, rfl⟩
    · have : p = n := by omega
      subst this
      go_wp2
      go_ret
      exact ⟨⟨-1, rfl, by rw [he.out]; rfl⟩, rfl⟩

set_option maxRecDepth 100000 in
theorem contains_any (w : World) (g : Nat) (T : List Bool) (n cap : Nat) (hT : TB w g T) (hn : n ≤ T.length) (hm : n ≤ maxLen) :
    Calls Tryz.prog 34 #[.slice (some ⟨g, 0, none⟩) n cap, .bool false] w fun e w' => e = .returned (.bool (has0 T n)) ∧ w' = w := by
  have C := index_any w g T n cap hT hn hm
  generalize has0 T n = R at *
  go_enter Tryz.func34, Tryz.ntmps34
  go_wp2_with fail
  refine C.mono ?_
  rintro e w' ⟨⟨z, rfl, hz⟩, rfl⟩
  have HZ : Hid _ := hz
  clear hz
  go_wp2
  go_ret
  exact ⟨congrArg (fun b => Ending.returned (Value.bool b)) HZ.out, rfl⟩

def cOut (x : Nat × Nat) : Ending := .returned (.tuple #[.int .i64 x.1, .int .i64 x.2])

theorem node_err {L : List Nd} {n : Nat} {x : Nd} {T : List Bool} {e : Nat} (h : nodeE L n x T = .error e) : e = 50 ∨ e = 52 ∨ e = 53 := by
  unfold nodeE at h
  split at h
  · cases h; simp
  · split at h
    · cases h; simp
    · split at h
      · cases h; simp
      · split at h
        · cases h; simp
        · split at h
          · cases h; simp
          · cases h

section
variable {L : List Nd} {T : List Bool}
theorem check_long (h : 50000 < L.length) : checkL L = (0, 2) := by unfold checkL; rw [if_pos h]
theorem check_err (h : ¬ 50000 < L.length) {e : Nat × Nat} (hn : nodesL L L.length = .error e) : checkL L = e := by unfold checkL; rw [if_neg h, hn]
theorem check_empty (h : L.length = 0) : checkL L = (0, 50) := by
  have : L = [] := by rw [← List.length_eq_zero_iff]; exact h
  subst this; rfl
theorem check_last (h : ¬ 50000 < L.length) (hn : nodesL L L.length = .ok T) (h0 : L.length ≠ 0) (hb : kd L ((L.length - 1 : Nat) : Int) ≠ 1 ∨ has0 T (L.length - 1) = true) : checkL L = (L.length - 1, 50) := by
  unfold checkL; rw [if_neg h, hn]; simp only; rw [if_neg h0]; exact if_pos hb
theorem check_deep (h : ¬ 50000 < L.length) (hn : nodesL L L.length = .ok T) (h0 : L.length ≠ 0) (hk : kd L ((L.length - 1 : Nat) : Int) = 1) (hb : has0 T (L.length - 1) = false) (hd : 200 < deepL L) : checkL L = (0, 51) := by
  unfold checkL; rw [if_neg h, hn]; simp only; rw [if_neg h0, if_neg (fun hh => by rcases hh with hh | hh; exact hh hk; have : has0 T (L.length - 1) = true := hh; rw [hb] at this; cases this), if_pos hd]
theorem check_ok (h : ¬ 50000 < L.length) (hn : nodesL L L.length = .ok T) (h0 : L.length ≠ 0) (hk : kd L ((L.length - 1 : Nat) : Int) = 1) (hb : has0 T (L.length - 1) = false) (hd : ¬ 200 < deepL L) : checkL L = (0, 0) := by
  unfold checkL; rw [if_neg h, hn]; simp only; rw [if_neg h0, if_neg (fun hh => by rcases hh with hh | hh; exact hh hk; have : has0 T (L.length - 1) = true := hh; rw [hb] at this; cases this), if_neg hd]
end

set_option maxRecDepth 100000 in
set_option maxHeartbeats 2000000 in
theorem check_any (B : Nat) (L : List Nd) (w : World) (a : Option Addr) (len cap : Nat) (hlen : L.length = len) (hL : NAt B w a L) (hm : len ≤ 2600000000000) (hB : B ≤ w.heap.size) (TT : Tabs w) :
    Calls Tryz.prog 13 #[.slice a len cap] w fun e w' => e = cOut (checkL L) ∧ Fr [] w w' := by
  have HL : Hid (L.length = len) := hlen
  have HB : Hid (B ≤ w.heap.size) := hB
  have HTL : Hid (7 ≤ w.heap.size) := TT.len
  have hLL := hlen
  clear hB hlen
  by_cases h0 : 50000 < len
  · have HC : Hid (checkL L = (0, 2)) := check_long (by rw [HL.out]; exact h0)
    go_enter Tryz.func13, Tryz.ntmps13
    go_wp2
    go_ret2
    exact ⟨by rw [HC.out]; rfl, Fr.refl _ _⟩
  · have HS : Hid (¬ 50000 < L.length) := by unfold Hid; rw [HL.out]; exact h0
    have hmk := make_bools (w.alloc (.map (Es 30) 30)) len (by omega)
    simp only [World.size_alloc] at hmk
    have M0 : WM ((w.alloc (.map (Es 30) 30)).alloc (.cells ((List.replicate len false).map Value.bool).toArray 4)) w.heap.size := by
      have := WM.fr (w := w.alloc (.map (Es 30) 30)) (g := w.heap.size) (heap_alloc_new w _) ((Fr.refl [] _).alloc (.cells ((List.replicate len false).map Value.bool).toArray 4)) (by simp)
      exact this
    have T0 : TB ((w.alloc (.map (Es 30) 30)).alloc (.cells ((List.replicate len false).map Value.bool).toArray 4)) (w.heap.size + 1) (List.replicate len false) := by
      have := heap_alloc_new (w.alloc (.map (Es 30) 30)) (.cells ((List.replicate len false).map Value.bool).toArray 4)
      simp only [World.size_alloc] at this
      exact this
    have f0 : Fr [] w ((w.alloc (.map (Es 30) 30)).alloc (.cells ((List.replicate len false).map Value.bool).toArray 4)) := ((Fr.refl _ _).alloc _).alloc _
    generalize hw0 : (w.alloc (.map (Es 30) 30)).alloc (.cells ((List.replicate len false).map Value.bool).toArray 4) = w0 at *
    clear hw0
    go_enter Tryz.func13, Tryz.ntmps13
    go_wp2_with (go_at_call 32; refine (wants_any _).mono ?_; rintro e w' ⟨rfl, rfl⟩)
    go_loopw [18] (fun i wr => ∃ p : Nat, p ≤ len ∧ i = .int .i64 p ∧ Fr [] w wr ∧ WM wr w.heap.size ∧ ∃ T : List Bool, TB wr (w.heap.size + 1) T ∧ T.length = len ∧ Hid (nodesL L p = .ok T)) (fun i _ => len - (intOf i).toNat)
    case atStart => exact ⟨0, Nat.zero_le _, rfl, f0, M0, _, T0, by simp, by unfold Hid; rw [nodesL, HL.out]⟩
    case round =>
      obtain ⟨p, hp, rfl, fw, hM, T, hT, hTl, he⟩ := hrel
      clear M0 T0 hmk
      have HTl : Hid (T.length = len) := hTl
      by_cases hlt : p < len
      · have hx : L[p]? = some (L[p]'(by rw [HL.out]; exact hlt)) := List.getElem?_eq_getElem _
        generalize L[p]'(by rw [HL.out]; exact hlt) = x at hx
        have hsz := fw.size
        have C := checkNode_any B L wr a len cap hLL (hL.fr fw (by simp)) (by unfold maxLen; omega) (by have := HB.out; omega) p x hx w.heap.size (w.heap.size + 1) T len hM hT hTl (by have := HB.out; omega) (TT.fr fw (by simp)) (by have := HTL.out; omega) (by omega)
        have HX : Hid (L[p]? = some x) := hx
        clear hx hTl hT hsz
        cases hn : nodeE L p x T with
        | error er =>
          have HR : Hid (nodesL L L.length = .error (p, er)) := nodes_err he.out HX.out hn
          rw [hn] at C
          have her := node_err hn
          have hne : ((er : Int) == 0) = false := beq_int_false (by omega)
          clear hn her
          go_wp2_with (go_at_call 33; refine C.mono ?_; rintro e w' ⟨he2, f2, _⟩; rw [errOf] at he2; subst he2)
          go_ret2
          exact ⟨by rw [check_err HS.out HR.out]; rfl, fw.over f2 (by simp)⟩
        | ok T' =>
          have HR : Hid (nodesL L (p + 1) = .ok T') := nodes_ok he.out HX.out hn
          rw [hn] at C
          have hl' := node_length hn
          have HTl' : Hid (T'.length = len) := by unfold Hid; rw [hl', HTl.out]
          clear hn hl'
          go_wp2_with (go_at_call 33; refine C.mono ?_; rintro e w' ⟨he2, f2, hT2⟩; rw [errOf] at he2; subst he2)
          go_roundw
          case rel => exact ⟨p + 1, hlt, by go_num, fw.over f2 (by simp), hM.fr f2 (by simp), T', hT2 T' rfl, HTl'.out, HR⟩
          case measure => simp [intOf]; omega
      · have hpe : p = len := by omega
        subst hpe
        have HN : Hid (nodesL L L.length = .ok T) := by unfold Hid; rw [HL.out]; exact he.out
        clear he
        by_cases hz : p = 0
        · subst hz
          have HR : Hid (checkL L = (0, 50)) := check_empty HL.out
          go_wp2
          go_ret2
          exact ⟨by rw [HR.out]; rfl, fw⟩
        · have HZ : Hid (L.length ≠ 0) := by unfold Hid; rw [HL.out]; exact hz
          have hx : L[p - 1]? = some (L[p - 1]'(by rw [HL.out]; omega)) := List.getElem?_eq_getElem _
          generalize L[p - 1]'(by rw [HL.out]; omega) = x at hx
          have HK : Hid (kd L ((L.length - 1 : Nat) : Int) = x.kind) := by unfold Hid; rw [HL.out]; exact kd_at hx
          obtain ⟨b, o, rfl, hb, hN⟩ := (hL.fr fw (by simp)) (p - 1) x hx
          have c0 := hN.c0
          have hp1 : (p : Int) - 1 = ((p - 1 : Nat) : Int) := by omega
          have hsz := fw.size
          clear hN hx
          by_cases hk : x.kind = 1
          · have CC := contains_any wr (w.heap.size + 1) T (p - 1) p hT (by rw [hTl]; omega) (by unfold maxLen; omega)
            have CD := fun w' (f : Fr [] w w') => deep_any B L w' (some ⟨b, o, none⟩) p cap hLL (hL.fr f (by simp)) hm (by have := f.size; have := HB.out; omega)
            have HK1 : Hid (kd L ((L.length - 1 : Nat) : Int) = 1) := by unfold Hid; rw [HK.out, hk]
            have HQ : Hid (p = L.length) := HL.out.symm
            go_wp2_with fail
            refine CC.mono ?_
            rintro e w' ⟨rfl, rfl⟩
            cases hc : has0 T (p - 1) with
            | true =>
              have HR : Hid (checkL L = (p - 1, 50)) := by unfold Hid; rw [check_last HS.out HN.out HZ.out (.inr (by rw [HL.out]; exact hc)), HL.out]
              clear CD hc CC
              go_wp2
              go_ret2
              exact ⟨by rw [HR.out]; rfl, fw⟩
            | false =>
              have HH : Hid (has0 T (L.length - 1) = false) := by unfold Hid; rw [HL.out]; exact hc
              have hdl : deepL L ≤ p := by have := deepL_le L; rw [HL.out] at this; exact this
              clear hc CC
              go_wp2_with fail
              refine (CD _ fw).mono ?_
              rintro e w2 ⟨rfl, f2⟩
              by_cases hd : 200 < deepL L
              · have HR : Hid (checkL L = (0, 51)) := check_deep HS.out HN.out HZ.out HK1.out HH.out hd
                clear CD
                generalize deepL L = DD at *
                go_wp2
                go_ret2
                exact ⟨by rw [HR.out]; rfl, fw.trans f2⟩
              · have HR : Hid (checkL L = (0, 0)) := check_ok HS.out HN.out HZ.out HK1.out HH.out hd
                clear CD
                generalize deepL L = DD at *
                go_wp2
                go_ret2
                exact ⟨by rw [HR.out]; rfl, fw.trans f2⟩
          · have hk' : (x.kind == 1) = false := by simp [hk]
            have HR : Hid (checkL L = (p - 1, 50)) := by unfold Hid; rw [check_last HS.out HN.out HZ.out (.inl (by rw [HK.out]; exact hk)), HL.out]
            clear HK
            go_wp2
            all_goals first | (exfalso; omega) | skip
            go_ret2
            exact ⟨by rw [HR.out]; rfl, fw⟩
end Go.Proofs.YtnkjgggbiokfbaaGreatDoor.T5
namespace Go.Proofs.YtnkjgggbiokfbaaGreatDoor.T5
open Go.RowKit
set_option maxRecDepth 100000
set_option linter.unusedVariables false
set_option linter.unusedSimpArgs false

theorem binAt (k : Nat) (h : k < 14) : (binaries.map fun l => Value.string ⟨l.toArray⟩)[k]? = some (.string ⟨(binaries.getD k []).toArray⟩) := by
  have hl : binaries.length = 14 := rfl
  rw [List.getElem?_map, List.getElem?_eq_getElem (by omega)]
  simp [List.getD, List.getElem?_eq_getElem (l := binaries) (i := k) (by omega)]
theorem binL_toList (s : ByteArray) : binaries.contains s.toList = binL s := by rw [Lib.toList_data]; rfl

set_option maxRecDepth 100000 in
theorem Operator_any (s : ByteArray) (w : World) :
    Calls Tryz.prog 65 #[.string s] w fun e w' => e = .returned (.bool (binL s)) ∧ Fr [] w w' := by
  go_enter Tryz.func65, Tryz.ntmps65
  go_wp2
  generalize hw1 : w.alloc _ = w1
  have hF : Fr [] w w1 := by rw [← hw1]; exact (Fr.refl _ _).alloc _
  have hB : w1.heap[w.heap.size]? = some (.cells (binaries.map fun l => Value.string ⟨l.toArray⟩).toArray 9) := by rw [← hw1]; exact heap_alloc_new w _
  have hC : ∀ k, k < 14 → w1.cell? ⟨w.heap.size, k, none⟩ = some (.string ⟨(binaries.getD k []).toArray⟩) := fun k hk => by
    unfold World.cell?
    rw [hB]
    simpa using binAt k hk
  clear hw1 hB
  generalize w.heap.size = g at hC ⊢
  go_loop [7] (fun i => ∃ k : Nat, k ≤ 14 ∧ i = .int .i64 k ∧ ∀ j, j < k → s.toList ≠ binaries.getD j []) (fun i => 14 - (intOf i).toNat)
  case atStart => exact ⟨0, by omega, rfl, fun j hj => by omega⟩
  case round =>
    obtain ⟨k, hk, rfl, hno⟩ := hrel
    have hno' : Hid (∀ j, j < k → s.toList ≠ binaries.getD j []) := hno
    clear hno
    by_cases hlt : k < 14
    · have hlt' : (k : Int) < 14 := by omega
      have hc := hC k hlt
      clear hC
      have hq : (s.toList == (⟨(binaries.getD k []).toArray⟩ : ByteArray).toList) = decide (s.toList = binaries.getD k []) := by
        rw [Lib.toList_data (⟨(binaries.getD k []).toArray⟩ : ByteArray), Bool.eq_iff_iff]
        simp
      by_cases he : s.toList = binaries.getD k []
      · have hq' : (s.toList == (⟨(binaries.getD k []).toArray⟩ : ByteArray).toList) = true := by rw [hq]; exact decide_eq_true he
        have hw : binL s = true := by
          rw [← binL_toList, he]
          simp only [List.contains_iff_mem]
          have : k < binaries.length := hlt
          simp [List.getD, List.getElem?_eq_getElem this]
        have HW : Hid (binL s = true) := hw
        clear hw hq he
        generalize (⟨(binaries.getD k []).toArray⟩ : ByteArray) = x at *
        go_wp2
        go_ret
        refine ⟨?_, hF⟩; rw [HW.out]; rfl
      · have hq' : (s.toList == (⟨(binaries.getD k []).toArray⟩ : ByteArray).toList) = false := by rw [hq]; exact decide_eq_false he
        have HE : Hid (¬ s.toList = binaries.getD k []) := he
        clear hq he
        generalize (⟨(binaries.getD k []).toArray⟩ : ByteArray) = x at *
        go_wp2
        go_round
        case rel => exact ⟨k + 1, hlt, by go_num, fun j hj => by
          by_cases hjk : j = k
          · rw [hjk]; exact HE.out
          · exact hno'.out j (by omega)⟩
        case measure => simp [intOf]; omega
    · have hlt' : ¬ (k : Int) < 14 := by omega
      have hw : binL s = false := by
        have hk' : k = 14 := by omega
        subst hk'
        rw [← binL_toList, Bool.eq_false_iff]
        intro h
        obtain ⟨j, hj, e⟩ := List.getElem_of_mem (List.contains_iff_mem.1 h)
        refine hno'.out j hj ?_
        rw [← e]
        simp [List.getD, List.getElem?_eq_getElem hj]
      have HW : Hid (binL s = false) := hw
      clear hw
      go_wp2
      go_ret
      refine ⟨?_, hF⟩; rw [HW.out]; rfl

set_option maxRecDepth 100000 in
theorem Expr_any (k : Int) (w : World) : Calls Tryz.prog 69 #[.int .i64 k] w fun e w' => e = .returned (.bool (isEx k)) ∧ w' = w := by
  have hI : Hid (isEx k = decide (15 ≤ k ∧ k ≤ 30)) := rfl
  generalize isEx k = R at *
  by_cases h1 : 15 ≤ k
  · by_cases h2 : k ≤ 30
    · have HR : Hid (R = true) := by unfold Hid; rw [hI.out]; simp; omega
      go_enter Tryz.func69, Tryz.ntmps69
      go_wp2
      go_ret
      exact ⟨by rw [HR.out]; rfl, rfl⟩
    · have HR : Hid (R = false) := by unfold Hid; rw [hI.out]; simp; omega
      go_enter Tryz.func69, Tryz.ntmps69
      go_wp2
      go_ret
      exact ⟨by rw [HR.out]; rfl, rfl⟩
  · have HR : Hid (R = false) := by unfold Hid; rw [hI.out]; simp; omega
    go_enter Tryz.func69, Tryz.ntmps69
    go_wp2
    go_ret
    exact ⟨by rw [HR.out]; rfl, rfl⟩
set_option maxRecDepth 100000 in
theorem Stmt_any (k : Int) (w : World) : Calls Tryz.prog 67 #[.int .i64 k] w fun e w' => e = .returned (.bool (isSt k)) ∧ w' = w := by
  have hI : Hid (isSt k = decide (5 ≤ k ∧ k ≤ 13)) := rfl
  generalize isSt k = R at *
  by_cases h1 : 5 ≤ k
  · by_cases h2 : k ≤ 13
    · have HR : Hid (R = true) := by unfold Hid; rw [hI.out]; simp; omega
      go_enter Tryz.func67, Tryz.ntmps67
      go_wp2
      go_ret
      exact ⟨by rw [HR.out]; rfl, rfl⟩
    · have HR : Hid (R = false) := by unfold Hid; rw [hI.out]; simp; omega
      go_enter Tryz.func67, Tryz.ntmps67
      go_wp2
      go_ret
      exact ⟨by rw [HR.out]; rfl, rfl⟩
  · have HR : Hid (R = false) := by unfold Hid; rw [hI.out]; simp; omega
    go_enter Tryz.func67, Tryz.ntmps67
    go_wp2
    go_ret
    exact ⟨by rw [HR.out]; rfl, rfl⟩

def allE (f : Int → Bool) (ks : List Int) : Bool := ks.all f
theorem allE_at {f : Int → Bool} {K : List Int} {p : Nat} {q : Int} (h : K[p]? = some q) : allE f (K.drop p) = (f q && allE f (K.drop (p + 1))) := by
  obtain ⟨hl, he⟩ := List.getElem?_eq_some_iff.1 h
  rw [List.drop_eq_getElem_cons hl, he]
  rfl

set_option maxRecDepth 100000 in
theorem all_any (B : Nat) (w : World) (K : List Int) (a : Option Addr) (m c : Nat) (k : Int) (hl : K.length = m) (hm : m ≤ maxLen) (hK : KAt B w a K) :
    Calls Tryz.prog 66 #[.slice a m c, .int .i64 k] w fun e w' => e = .returned (.bool (allE (· == k) K)) ∧ w' = w := by
  unfold maxLen at hm
  have HL : Hid (K.length = m) := hl
  clear hl
  go_enter Tryz.func66, Tryz.ntmps66
  go_wp2
  go_loop [9] (fun i => ∃ p : Nat, p ≤ m ∧ i = .int .i64 p ∧ Hid (allE (· == k) (K.drop p) = allE (· == k) K)) (fun i => m - (intOf i).toNat)
  case atStart => exact ⟨0, Nat.zero_le _, rfl, rfl⟩
  case round =>
    obtain ⟨p, hp, rfl, he⟩ := hrel
    by_cases hlt : p < m
    · have hx : K[p]? = some (K[p]'(by rw [HL.out]; exact hlt)) := List.getElem?_eq_getElem _
      generalize K[p]'(by rw [HL.out]; exact hlt) = q at hx
      obtain ⟨b, o, rfl, hb, hc⟩ := hK p q hx
      have HS : Hid (allE (· == k) (K.drop p) = ((q == k) && allE (· == k) (K.drop (p + 1)))) := allE_at hx
      clear hx hK
      by_cases hq : q = k
      · have HR : Hid (allE (· == k) (K.drop (p + 1)) = allE (· == k) K) := by unfold Hid; rw [← he.out, HS.out, hq]; simp
        clear HS
        subst hq
        go_wp2
        go_round
        case rel => exact ⟨p + 1, hlt, by go_num, HR⟩
        case measure => simp [intOf]; omega
      · have hq' : (q == k) = false := by simp [hq]
        have HR : Hid (allE (· == k) K = false) := by unfold Hid; rw [← he.out, HS.out, hq', Bool.false_and]
        clear HS
        go_wp2
        all_goals first | (exfalso; omega) | skip
        go_ret
        exact ⟨by rw [HR.out]; rfl, rfl⟩
    · have HE : Hid (allE (· == k) K = true) := by
        unfold Hid
        rw [← he.out, List.drop_of_length_le (by rw [HL.out]; omega)]
        rfl
      go_wp2
      go_ret
      exact ⟨by rw [HE.out]; rfl, rfl⟩

set_option maxRecDepth 100000 in
theorem exprs_any (B : Nat) (w : World) (K : List Int) (a : Option Addr) (m c n : Nat) (hl : K.length = m) (hm : m ≤ maxLen) (hn : n ≤ maxLen) (hK : KAt B w a K) :
    Calls Tryz.prog 68 #[.slice a m c, .int .i64 n] w fun e w' => e = .returned (.bool (allE isEx K && decide (m = n))) ∧ w' = w := by
  unfold maxLen at hm hn
  have HL : Hid (K.length = m) := hl
  have HD : Hid (decide (m = n) = ((m : Int) == (n : Int))) := by unfold Hid; rw [Bool.eq_iff_iff]; simp; omega
  rw [HD.out]
  clear hl
  go_enter Tryz.func68, Tryz.ntmps68
  go_wp2
  go_loop [9] (fun i => ∃ p : Nat, p ≤ m ∧ i = .int .i64 p ∧ Hid (allE isEx (K.drop p) = allE isEx K)) (fun i => m - (intOf i).toNat)
  case atStart => exact ⟨0, Nat.zero_le _, rfl, rfl⟩
  case round =>
    obtain ⟨p, hp, rfl, he⟩ := hrel
    by_cases hlt : p < m
    · have hx : K[p]? = some (K[p]'(by rw [HL.out]; exact hlt)) := List.getElem?_eq_getElem _
      generalize K[p]'(by rw [HL.out]; exact hlt) = q at hx
      obtain ⟨b, o, rfl, hb, hc⟩ := hK p q hx
      have HS : Hid (allE isEx (K.drop p) = (isEx q && allE isEx (K.drop (p + 1)))) := allE_at hx
      have C := fun w => Expr_any q w
      clear hx hK
      cases hq : isEx q with
      | true =>
        rw [hq] at C
        have HR : Hid (allE isEx (K.drop (p + 1)) = allE isEx K) := by unfold Hid; rw [← he.out, HS.out, hq]; simp
        clear HS
        go_wp2_with (go_at_call 69; refine (C _).mono ?_; rintro e w' ⟨rfl, rfl⟩)
        go_round
        case rel => exact ⟨p + 1, hlt, by go_num, HR⟩
        case measure => simp [intOf]; omega
      | false =>
        rw [hq] at C
        have HR : Hid (allE isEx K = false) := by unfold Hid; rw [← he.out, HS.out, hq, Bool.false_and]
        clear HS
        go_wp2_with (go_at_call 69; refine (C _).mono ?_; rintro e w' ⟨rfl, rfl⟩)
        go_ret
        exact ⟨by rw [HR.out]; rfl, rfl⟩
    · have HE : Hid (allE isEx K = true) := by
        unfold Hid
        rw [← he.out, List.drop_of_length_le (by rw [HL.out]; omega)]
        rfl
      go_wp2
      go_ret
      exact ⟨by rw [HE.out]; rfl, rfl⟩
end Go.Proofs.YtnkjgggbiokfbaaGreatDoor.T5
namespace Go.Proofs.YtnkjgggbiokfbaaGreatDoor.T5
open Go.RowKit
set_option maxRecDepth 100000
set_option linter.unusedVariables false
set_option linter.unusedSimpArgs false

theorem dec_ref {s : ByteArray} {n : Nat} (h : num s = some n) (hp : 0 < s.size) : decL s = (decide (48 ≤ s[0].toNat) && decide (s[0].toNat ≤ 57) && (decide (s.size = 1) || !decide (s[0].toNat = 48))) := by
  obtain ⟨l, hl⟩ := head_of hp
  have hsz : s.size = l.length + 1 := by rw [Lib.size_eq, hl]; rfl
  have e2 : s.data.toList.headD 0 = s[0] := by rw [hl]; rfl
  have e3 : (s.data.toList = [48]) ↔ (s[0].toNat = 48 ∧ l.length = 0) := by
    rw [hl]
    constructor
    · intro e
      simp at e
      exact ⟨by rw [e.1]; rfl, by rw [e.2]; rfl⟩
    · rintro ⟨a, b⟩
      have : l = [] := by rw [← List.length_eq_zero_iff]; exact b
      subst this
      have : s[0] = 48 := by apply UInt8.toNat_inj.1; rw [a]; rfl
      rw [this]
  unfold decL
  rw [h, e2, Bool.eq_iff_iff]
  simp only [Option.isSome_some, Bool.true_and, Bool.or_eq_true, decide_eq_true_eq, Bool.and_eq_true, Bool.not_eq_true', decide_eq_false_iff_not, e3]
  omega

set_option maxRecDepth 100000 in
set_option maxHeartbeats 1000000 in
theorem rtext_any (x : Nd) (w : World) (hs : x.text.size ≤ maxLen) (t : Nat) (ls : List UInt8) (hw : wantL x.kind = some (t, ls)) :
    Calls Tryz.prog 35 #[.agg #[.int .i64 x.kind, .string x.text, .slice x.a x.ks.length x.c, .int .i64 x.pl]] w fun e w' => e = .returned (.bool (textL t x.text)) ∧ Fr [] w w' := by
  obtain ⟨k, s, a, c, ks, pl⟩ := x
  simp only at hs hw ⊢
  have f0 : ∀ o, Fr [] w (w.alloc o) := fun o => (Fr.refl _ _).alloc _
  have hE : s.toList.isEmpty = noneL s := by rw [Lib.toList_data]; rfl
  have CN := fun w => nameR_any s w hs
  have CO := fun w => Operator_any s w
  have CM := fun w => numberR_any s w hs
  have hk : 1 ≤ k ∧ k ≤ 30 := by
    refine Decidable.byContradiction fun hn => ?_
    rw [lookup_want k (by omega)] at hw
    cases hw
  by_cases h1 : k = 2 ∨ k = 3 ∨ k = 5 ∨ k = 17 ∨ k = 20 ∨ k = 22 ∨ k = 23
  · have ht : t = 1 := by
      rcases h1 with rfl | rfl | rfl | rfl | rfl | rfl | rfl <;> exact (congrArg Prod.fst (Option.some.inj hw)).symm
    subst ht
    clear hw hk hE CO CM
    rcases h1 with rfl | rfl | rfl | rfl | rfl | rfl | rfl
    all_goals
      go_enter Tryz.func35, Tryz.ntmps35
      go_wp2_with (go_at_call 64; refine (CN _).mono ?_; rintro e w' ⟨rfl, f1⟩)
      go_ret
      exact ⟨rfl, (f0 _).trans f1⟩
  · by_cases h2 : k = 15
    · subst h2
      have ht : t = 2 := (congrArg Prod.fst (Option.some.inj hw)).symm
      subst ht
      clear hw hk hE CO CN h1
      cases hn : num s with
      | none =>
        have HR : Hid (decL s = false) := by unfold Hid decL; rw [hn]; rfl
        rw [hn] at CM
        go_enter Tryz.func35, Tryz.ntmps35
        go_wp2_with (go_at_call 52; refine (CM _).mono ?_; rintro e w' ⟨he, rfl⟩; rw [nOut] at he; subst he)
        go_ret
        exact ⟨by show _ = Ending.returned (.bool (decL s)); rw [HR.out]; rfl, f0 _⟩
      | some n =>
        have hp := num_pos hn
        have HD : Hid _ := dec_ref hn hp
        rw [hn] at CM
        have hb := byte_lt s[0]
        clear hn
        unfold maxLen at hs
        by_cases q1 : 48 ≤ s[0].toNat
        · by_cases q2 : s[0].toNat ≤ 57
          · by_cases q3 : s.size = 1
            · have HR : Hid (decL s = true) := by unfold Hid; rw [HD.out]; simp [q1, q2, q3]
              have q3' : ((s.size : Int) == 1) = true := by simp; omega
              clear HD
              go_enter Tryz.func35, Tryz.ntmps35
              go_wp2_with (go_at_call 52; refine (CM _).mono ?_; rintro e w' ⟨he, rfl⟩; rw [nOut] at he; subst he)
              go_ret
              exact ⟨by show _ = Ending.returned (.bool (decL s)); rw [HR.out]; rfl, f0 _⟩
            · have q3' : ((s.size : Int) == 1) = false := beq_int_false (by omega)
              by_cases q4 : s[0].toNat = 48
              · have HR : Hid (decL s = false) := by unfold Hid; rw [HD.out]; simp [q3, q4]
                clear HD
                have q4' : ((s[0].toNat : Int) == 48) = true := by simp; omega
                go_enter Tryz.func35, Tryz.ntmps35
                go_wp2_with (go_at_call 52; refine (CM _).mono ?_; rintro e w' ⟨he, rfl⟩; rw [nOut] at he; subst he)
                go_ret
                exact ⟨by show _ = Ending.returned (.bool (decL s)); rw [HR.out]; rfl, f0 _⟩
              · have HR : Hid (decL s = true) := by unfold Hid; rw [HD.out]; simp [q1, q2, q4]
                clear HD
                have q4' : ((s[0].toNat : Int) == 48) = false := beq_int_false (by omega)
                go_enter Tryz.func35, Tryz.ntmps35
                go_wp2_with (go_at_call 52; refine (CM _).mono ?_; rintro e w' ⟨he, rfl⟩; rw [nOut] at he; subst he)
                all_goals first | (exfalso; omega) | skip
                go_ret
                exact ⟨congrArg (fun b => Ending.returned (Value.bool b)) (show ((s[0].toNat : Int) != 48) = decL s by rw [HR.out]; simp only [bne, q4', Bool.not_false]), f0 _⟩
          · have HR : Hid (decL s = false) := by unfold Hid; rw [HD.out]; simp [q2]
            clear HD
            go_enter Tryz.func35, Tryz.ntmps35
            go_wp2_with (go_at_call 52; refine (CM _).mono ?_; rintro e w' ⟨he, rfl⟩; rw [nOut] at he; subst he)
            go_ret
            exact ⟨by show _ = Ending.returned (.bool (decL s)); rw [HR.out]; rfl, f0 _⟩
        · have HR : Hid (decL s = false) := by unfold Hid; rw [HD.out]; simp [q1]
          clear HD
          go_enter Tryz.func35, Tryz.ntmps35
          go_wp2_with (go_at_call 52; refine (CM _).mono ?_; rintro e w' ⟨he, rfl⟩; rw [nOut] at he; subst he)
          go_ret
          exact ⟨by show _ = Ending.returned (.bool (decL s)); rw [HR.out]; rfl, f0 _⟩
    · by_cases h3 : k = 18
      · subst h3
        have ht : t = 3 := (congrArg Prod.fst (Option.some.inj hw)).symm
        subst ht
        have hu := un_toList s
        have HT : Hid (textL 3 s = unL s) := rfl
        rw [HT.out]
        clear hw hk hE CO CN CM h1 h2 HT
        generalize unL s = R at hu ⊢
        go_enter Tryz.func35, Tryz.ntmps35
        go_wp2
        all_goals go_ret
        all_goals refine ⟨congrArg (fun b => Ending.returned (Value.bool b)) ?_, f0 _⟩
        all_goals first | (rw [hu, Bool.eq_iff_iff]; simp [unaries, or_assoc]; done) | (simp_all [unaries]; done)
      · by_cases h4 : k = 19
        · subst h4
          have ht : t = 4 := (congrArg Prod.fst (Option.some.inj hw)).symm
          subst ht
          clear hw hk hE CN CM h1 h2 h3
          go_enter Tryz.func35, Tryz.ntmps35
          go_wp2_with (go_at_call 65; refine (CO _).mono ?_; rintro e w' ⟨rfl, f1⟩)
          go_ret
          exact ⟨rfl, (f0 _).trans f1⟩
        · have hc : k = 1 ∨ k = 4 ∨ k = 6 ∨ k = 7 ∨ k = 8 ∨ k = 9 ∨ k = 10 ∨ k = 11 ∨ k = 12 ∨ k = 13 ∨ k = 14 ∨ k = 16 ∨ k = 21 ∨ k = 24 ∨ k = 25 ∨ k = 26 ∨ k = 27 ∨ k = 28 ∨ k = 29 ∨ k = 30 := by omega
          have ht : t = 0 := by
            rcases hc with rfl | rfl | rfl | rfl | rfl | rfl | rfl | rfl | rfl | rfl | rfl | rfl | rfl | rfl | rfl | rfl | rfl | rfl | rfl | rfl <;> exact (congrArg Prod.fst (Option.some.inj hw)).symm
          subst ht
          have b2 : (k == 2) = false := by simp; omega
          have b3 : (k == 3) = false := by simp; omega
          have b5 : (k == 5) = false := by simp; omega
          have b17 : (k == 17) = false := by simp; omega
          have b20 : (k == 20) = false := by simp; omega
          have b22 : (k == 22) = false := by simp; omega
          have b23 : (k == 23) = false := by simp; omega
          have b15 : (k == 15) = false := by simp; omega
          have b18 : (k == 18) = false := by simp; omega
          have b19 : (k == 19) = false := by simp; omega
          clear hw hk CN CM CO h1 h2 h3 h4 hc
          go_enter Tryz.func35, Tryz.ntmps35
          go_wp2
          go_ret
          exact ⟨congrArg (fun b => Ending.returned (Value.bool b)) (by first | rfl | exact hE), f0 _⟩
end Go.Proofs.YtnkjgggbiokfbaaGreatDoor.T5
namespace Go.Proofs.YtnkjgggbiokfbaaGreatDoor.T5
open Go.RowKit
set_option maxRecDepth 100000
set_option linter.unusedVariables false
set_option linter.unusedSimpArgs false

theorem len_cases {K : List Int} : (K.length = 0 ∧ K = []) ∨ ∃ q r, K = q :: r := by
  cases K with
  | nil => exact .inl ⟨rfl, rfl⟩
  | cons q r => exact .inr ⟨q, r, rfl⟩

section
variable {B : Nat} {w : World} {K : List Int} {a : Option Addr} {m c : Nat}

set_option maxRecDepth 100000 in
set_option maxHeartbeats 1000000 in
theorem shape_prog (hl : K.length = m) (hm : m ≤ maxLen) (hK : KAt B w a K) :
    Calls Tryz.prog 36 #[.int .i64 1, .slice a m c] w fun e w' => e = .returned (.bool (shapeL 1 K)) ∧ w' = w := by
  have HS : Hid (shapeL 1 K = allE (fun k => k == 2 || k == 3) K) := rfl
  rw [HS.out]
  unfold maxLen at hm
  have HL : Hid (K.length = m) := hl
  clear hl HS
  go_enter Tryz.func36, Tryz.ntmps36
  go_wp2
  go_loop [17] (fun i => ∃ p : Nat, p ≤ m ∧ i = .int .i64 p ∧ Hid (allE (fun k => k == 2 || k == 3) (K.drop p) = allE (fun k => k == 2 || k == 3) K)) (fun i => m - (intOf i).toNat)
  case atStart => exact ⟨0, Nat.zero_le _, rfl, rfl⟩
  case round =>
    obtain ⟨p, hp, rfl, he⟩ := hrel
    by_cases hlt : p < m
    · have hx : K[p]? = some (K[p]'(by rw [HL.out]; exact hlt)) := List.getElem?_eq_getElem _
      generalize K[p]'(by rw [HL.out]; exact hlt) = q at hx
      obtain ⟨b, o, rfl, hb, hc⟩ := hK p q hx
      have HS : Hid (allE (fun k => k == 2 || k == 3) (K.drop p) = ((q == 2 || q == 3) && allE (fun k => k == 2 || k == 3) (K.drop (p + 1)))) := allE_at hx
      clear hx hK
      by_cases h2 : q = 2
      · subst h2
        have HR : Hid (allE (fun k => k == 2 || k == 3) (K.drop (p + 1)) = allE (fun k => k == 2 || k == 3) K) := by unfold Hid; rw [← he.out, HS.out]; simp
        clear HS
        go_wp2
        go_round
        case rel => exact ⟨p + 1, hlt, by go_num, HR⟩
        case measure => simp [intOf]; omega
      · by_cases h3 : q = 3
        · subst h3
          have HR : Hid (allE (fun k => k == 2 || k == 3) (K.drop (p + 1)) = allE (fun k => k == 2 || k == 3) K) := by unfold Hid; rw [← he.out, HS.out]; simp
          clear HS h2
          go_wp2
          all_goals
            go_round
            case rel => exact ⟨p + 1, hlt, by go_num, HR⟩
            case measure => simp [intOf]; omega
        · have h2' : (q == 2) = false := by simp [h2]
          have h3' : (q == 3) = false := by simp [h3]
          have HR : Hid (allE (fun k => k == 2 || k == 3) K = false) := by unfold Hid; rw [← he.out, HS.out, h2', h3']; rfl
          clear HS
          have h2n : (q != 2) = true := by simp [h2]
          have h3n : (q != 3) = true := by simp [h3]
          go_wp2
          all_goals first | (exfalso; omega) | (exfalso; simp_all; done) | skip
          go_ret
          exact ⟨by rw [HR.out]; rfl, rfl⟩
    · have HE : Hid (allE (fun k => k == 2 || k == 3) K = true) := by
        unfold Hid
        rw [← he.out, List.drop_of_length_le (by rw [HL.out]; omega)]
        rfl
      go_wp2
      go_ret
      exact ⟨by rw [HE.out]; rfl, rfl⟩

set_option maxRecDepth 100000 in
set_option maxHeartbeats 1000000 in
theorem shape_block (hl : K.length = m) (hm : m ≤ maxLen) (hK : KAt B w a K) :
    Calls Tryz.prog 36 #[.int .i64 4, .slice a m c] w fun e w' => e = .returned (.bool (shapeL 4 K)) ∧ w' = w := by
  have HS : Hid (shapeL 4 K = allE isSt K) := rfl
  rw [HS.out]
  unfold maxLen at hm
  have HL : Hid (K.length = m) := hl
  clear hl HS
  go_enter Tryz.func36, Tryz.ntmps36
  go_wp2
  go_loop [56] (fun i => ∃ p : Nat, p ≤ m ∧ i = .int .i64 p ∧ Hid (allE isSt (K.drop p) = allE isSt K)) (fun i => m - (intOf i).toNat)
  case atStart => exact ⟨0, Nat.zero_le _, rfl, rfl⟩
  case round =>
    obtain ⟨p, hp, rfl, he⟩ := hrel
    by_cases hlt : p < m
    · have hx : K[p]? = some (K[p]'(by rw [HL.out]; exact hlt)) := List.getElem?_eq_getElem _
      generalize K[p]'(by rw [HL.out]; exact hlt) = q at hx
      obtain ⟨b, o, rfl, hb, hc⟩ := hK p q hx
      have HS : Hid (allE isSt (K.drop p) = (isSt q && allE isSt (K.drop (p + 1)))) := allE_at hx
      have C := fun w => Stmt_any q w
      clear hx hK
      cases hq : isSt q with
      | true =>
        rw [hq] at C
        have HR : Hid (allE isSt (K.drop (p + 1)) = allE isSt K) := by unfold Hid; rw [← he.out, HS.out, hq]; simp
        clear HS
        go_wp2_with (go_at_call 67; refine (C _).mono ?_; rintro e w' ⟨rfl, rfl⟩)
        go_round
        case rel => exact ⟨p + 1, hlt, by go_num, HR⟩
        case measure => simp [intOf]; omega
      | false =>
        rw [hq] at C
        have HR : Hid (allE isSt K = false) := by unfold Hid; rw [← he.out, HS.out, hq, Bool.false_and]
        clear HS
        go_wp2_with (go_at_call 67; refine (C _).mono ?_; rintro e w' ⟨rfl, rfl⟩)
        go_ret
        exact ⟨by rw [HR.out]; rfl, rfl⟩
    · have HE : Hid (allE isSt K = true) := by
        unfold Hid
        rw [← he.out, List.drop_of_length_le (by rw [HL.out]; omega)]
        rfl
      go_wp2
      go_ret
      exact ⟨by rw [HE.out]; rfl, rfl⟩

set_option maxRecDepth 100000 in
set_option maxHeartbeats 1000000 in
theorem shape_names (k : Int) (hk : k = 2 ∨ k = 13) (hl : K.length = m) (hm : m ≤ maxLen) (hK : KAt B w a K) :
    Calls Tryz.prog 36 #[.int .i64 k, .slice a m c] w fun e w' => e = .returned (.bool (shapeL k K)) ∧ w' = w := by
  have C := fun c => all_any B w K a m c 17 hl hm hK
  have HS : Hid (shapeL k K = allE (· == 17) K) := by unfold Hid; rcases hk with rfl | rfl <;> rfl
  rw [HS.out]
  generalize allE (· == 17) K = R at *
  unfold maxLen at hm
  rcases hk with rfl | rfl
  all_goals
    go_enter Tryz.func36, Tryz.ntmps36
    go_wp2_with (go_at_call 66; refine (C _).mono ?_; rintro e w' ⟨rfl, rfl⟩)
    go_ret
    exact ⟨rfl, rfl⟩

set_option maxRecDepth 100000 in
set_option maxHeartbeats 1000000 in
theorem shape_one (k : Int) (hk : k = 5 ∨ k = 9 ∨ k = 10 ∨ k = 11 ∨ k = 18 ∨ k = 20 ∨ k = 24 ∨ k = 25 ∨ k = 27 ∨ k = 29) (hl : K.length = m) (hm : m ≤ maxLen) (hK : KAt B w a K) :
    Calls Tryz.prog 36 #[.int .i64 k, .slice a m c] w fun e w' => e = .returned (.bool (shapeL k K)) ∧ w' = w := by
  have C := fun c => exprs_any B w K a m c 1 hl hm (by decide) hK
  have HS : Hid (shapeL k K = (allE isEx K && decide (m = 1))) := by
    unfold Hid
    rw [← hl]
    rcases hk with rfl | rfl | rfl | rfl | rfl | rfl | rfl | rfl | rfl | rfl <;> rfl
  rw [HS.out]
  generalize (allE isEx K && decide (m = 1)) = R at *
  unfold maxLen at hm
  rcases hk with rfl | rfl | rfl | rfl | rfl | rfl | rfl | rfl | rfl | rfl
  all_goals
    go_enter Tryz.func36, Tryz.ntmps36
    go_wp2_with (go_at_call 68; refine (C _).mono ?_; rintro e w' ⟨rfl, rfl⟩)
    go_ret
    exact ⟨rfl, rfl⟩

set_option maxRecDepth 100000 in
set_option maxHeartbeats 1000000 in
theorem shape_two (k : Int) (hk : k = 19 ∨ k = 21) (hl : K.length = m) (hm : m ≤ maxLen) (hK : KAt B w a K) :
    Calls Tryz.prog 36 #[.int .i64 k, .slice a m c] w fun e w' => e = .returned (.bool (shapeL k K)) ∧ w' = w := by
  have C := fun c => exprs_any B w K a m c 2 hl hm (by decide) hK
  have HS : Hid (shapeL k K = (allE isEx K && decide (m = 2))) := by
    unfold Hid
    rw [← hl]
    rcases hk with rfl | rfl <;> rfl
  rw [HS.out]
  generalize (allE isEx K && decide (m = 2)) = R at *
  unfold maxLen at hm
  rcases hk with rfl | rfl
  all_goals
    go_enter Tryz.func36, Tryz.ntmps36
    go_wp2_with (go_at_call 68; refine (C _).mono ?_; rintro e w' ⟨rfl, rfl⟩)
    go_ret
    exact ⟨rfl, rfl⟩

set_option maxRecDepth 100000 in
set_option maxHeartbeats 1000000 in
theorem shape_call (hl : K.length = m) (hm : m ≤ maxLen) (hK : KAt B w a K) :
    Calls Tryz.prog 36 #[.int .i64 22, .slice a m c] w fun e w' => e = .returned (.bool (shapeL 22 K)) ∧ w' = w := by
  have C := fun c => exprs_any B w K a m c m hl hm hm hK
  have HS : Hid (shapeL 22 K = (allE isEx K && decide (m = m))) := by
    unfold Hid
    simp only [decide_true, Bool.and_true]
    rfl
  rw [HS.out]
  generalize (allE isEx K && decide (m = m)) = R at *
  unfold maxLen at hm
  go_enter Tryz.func36, Tryz.ntmps36
  go_wp2_with (go_at_call 68; refine (C _).mono ?_; rintro e w' ⟨rfl, rfl⟩)
  go_ret
  exact ⟨rfl, rfl⟩

set_option maxRecDepth 100000 in
set_option maxHeartbeats 1000000 in
theorem shape_none (k : Int) (hk : k = 14 ∨ k = 15 ∨ k = 16 ∨ k = 17 ∨ k = 23 ∨ k = 26 ∨ k = 28 ∨ k = 30) (hl : K.length = m) (hm : m ≤ maxLen) :
    Calls Tryz.prog 36 #[.int .i64 k, .slice a m c] w fun e w' => e = .returned (.bool (shapeL k K)) ∧ w' = w := by
  have HS : Hid (shapeL k K = ((m : Int) == 0)) := by
    unfold Hid
    have : shapeL k K = decide (K.length = 0) := by rcases hk with rfl | rfl | rfl | rfl | rfl | rfl | rfl | rfl <;> rfl
    rw [this, hl, Bool.eq_iff_iff]
    simp
  rw [HS.out]
  unfold maxLen at hm
  rcases hk with rfl | rfl | rfl | rfl | rfl | rfl | rfl | rfl
  all_goals
    go_enter Tryz.func36, Tryz.ntmps36
    go_wp2
    go_ret
    exact ⟨rfl, rfl⟩

set_option maxRecDepth 100000 in
set_option maxHeartbeats 1000000 in
theorem shape_do (hl : K.length = m) (hm : m ≤ maxLen) (hK : KAt B w a K) :
    Calls Tryz.prog 36 #[.int .i64 12, .slice a m c] w fun e w' => e = .returned (.bool (shapeL 12 K)) ∧ w' = w := by
  by_cases h1 : m = 1
  · subst h1
    match K, hl with
    | [q], _ =>
      obtain ⟨b, o, rfl, hb, hc⟩ := hK 0 q rfl
      have HS : Hid (shapeL 12 [q] = (q == 22)) := rfl
      rw [HS.out]
      clear HS
      simp only [Nat.add_zero] at hc
      go_enter Tryz.func36, Tryz.ntmps36
      go_wp2
      go_ret
      exact ⟨rfl, rfl⟩
  · have HS : Hid (shapeL 12 K = false) := by
      unfold Hid
      have : shapeL 12 K = (decide (K.length = 1) && (K.getD 0 0 == 22)) := rfl
      rw [this, hl]; simp [h1]
    rw [HS.out]
    unfold maxLen at hm
    have h1' : ((m : Int) == 1) = false := beq_int_false (by omega)
    go_enter Tryz.func36, Tryz.ntmps36
    go_wp2
    all_goals first | (exfalso; omega) | skip
    go_ret
    exact ⟨rfl, rfl⟩

set_option maxRecDepth 100000 in
set_option maxHeartbeats 1000000 in
theorem shape_while (hl : K.length = m) (hm : m ≤ maxLen) (hK : KAt B w a K) :
    Calls Tryz.prog 36 #[.int .i64 8, .slice a m c] w fun e w' => e = .returned (.bool (shapeL 8 K)) ∧ w' = w := by
  by_cases h1 : m = 2
  · subst h1
    match K, hl with
    | [q, r], _ =>
      obtain ⟨b, o, rfl, hb, hc⟩ := hK 0 q rfl
      obtain ⟨b', o', e, _, hd⟩ := hK 1 r rfl
      injection e with e
      injection e with e1 e2
      subst e1 e2
      have HS : Hid (shapeL 8 [q, r] = (isEx q && (r == 4))) := rfl
      rw [HS.out]
      clear HS
      simp only [Nat.add_zero] at hc
      have C := fun w => Expr_any q w
      generalize isEx q = R at *
      cases R with
      | true =>
        go_enter Tryz.func36, Tryz.ntmps36
        go_wp2_with (go_at_call 69; refine (C _).mono ?_; rintro e w' ⟨rfl, rfl⟩)
        go_ret
        exact ⟨rfl, rfl⟩
      | false =>
        go_enter Tryz.func36, Tryz.ntmps36
        go_wp2_with (go_at_call 69; refine (C _).mono ?_; rintro e w' ⟨rfl, rfl⟩)
        go_ret
        exact ⟨rfl, rfl⟩
  · have HS : Hid (shapeL 8 K = false) := by
      unfold Hid
      have : shapeL 8 K = (decide (K.length = 2) && isEx (K.getD 0 0) && (K.getD 1 0 == 4)) := rfl
      rw [this, hl]; simp [h1]
    rw [HS.out]
    unfold maxLen at hm
    have h1' : ((m : Int) == 2) = false := beq_int_false (by omega)
    go_enter Tryz.func36, Tryz.ntmps36
    go_wp2
    all_goals first | (exfalso; omega) | skip
    go_ret
    exact ⟨rfl, rfl⟩

set_option maxRecDepth 100000 in
set_option maxHeartbeats 1000000 in
theorem shape_if (hl : K.length = m) (hm : m ≤ maxLen) (hK : KAt B w a K) :
    Calls Tryz.prog 36 #[.int .i64 7, .slice a m c] w fun e w' => e = .returned (.bool (shapeL 7 K)) ∧ w' = w := by
  by_cases h1 : m = 3
  · subst h1
    match K, hl with
    | [q, r, s], _ =>
      obtain ⟨b, o, rfl, hb, hc⟩ := hK 0 q rfl
      obtain ⟨b', o', e, _, hd⟩ := hK 1 r rfl
      injection e with e
      injection e with e1 e2
      subst e1 e2
      obtain ⟨b', o', e, _, hf⟩ := hK 2 s rfl
      injection e with e
      injection e with e1 e2
      subst e1 e2
      have HS : Hid (shapeL 7 [q, r, s] = (isEx q && (r == 4) && (s == 4 || s == 14))) := rfl
      rw [HS.out]
      clear HS
      simp only [Nat.add_zero] at hc
      have C := fun w => Expr_any q w
      generalize isEx q = R at *
      by_cases h4 : r = 4
      · subst h4
        by_cases h5 : s = 4
        · subst h5
          cases R
          all_goals
            go_enter Tryz.func36, Tryz.ntmps36
            go_wp2_with (go_at_call 69; refine (C _).mono ?_; rintro e w' ⟨rfl, rfl⟩)
            go_ret
            exact ⟨rfl, rfl⟩
        · have h5' : (s == 4) = false := by simp [h5]
          rw [h5']
          cases R
          all_goals
            go_enter Tryz.func36, Tryz.ntmps36
            go_wp2_with (go_at_call 69; refine (C _).mono ?_; rintro e w' ⟨rfl, rfl⟩)
            all_goals first | (exfalso; omega) | skip
            go_ret
            exact ⟨rfl, rfl⟩
      · have h4' : (r == 4) = false := by simp [h4]
        rw [h4']
        cases R
        all_goals
          go_enter Tryz.func36, Tryz.ntmps36
          go_wp2_with (go_at_call 69; refine (C _).mono ?_; rintro e w' ⟨rfl, rfl⟩)
          all_goals first | (exfalso; omega) | skip
          go_ret
          exact ⟨rfl, rfl⟩
  · have HS : Hid (shapeL 7 K = false) := by
      unfold Hid
      have : shapeL 7 K = (decide (K.length = 3) && isEx (K.getD 0 0) && (K.getD 1 0 == 4) && (K.getD 2 0 == 4 || K.getD 2 0 == 14)) := rfl
      rw [this, hl]; simp [h1]
    rw [HS.out]
    unfold maxLen at hm
    have h1' : ((m : Int) == 3) = false := beq_int_false (by omega)
    go_enter Tryz.func36, Tryz.ntmps36
    go_wp2
    all_goals first | (exfalso; omega) | skip
    go_ret
    exact ⟨rfl, rfl⟩

set_option maxRecDepth 100000 in
set_option maxHeartbeats 1000000 in
theorem shape_set (hl : K.length = m) (hm : m ≤ maxLen) (hK : KAt B w a K) :
    Calls Tryz.prog 36 #[.int .i64 6, .slice a m c] w fun e w' => e = .returned (.bool (shapeL 6 K)) ∧ w' = w := by
  have C := fun c => exprs_any B w K a m c 2 hl hm (by decide) hK
  have HS : Hid (shapeL 6 K = (allE isEx K && decide (m = 2) && (K.headD 0 == 17 || K.headD 0 == 20 || K.headD 0 == 21 || K.headD 0 == 30))) := by unfold Hid; rw [← hl]; rfl
  cases hr : (allE isEx K && decide (m = 2)) with
  | false =>
    rw [hr] at C
    rw [HS.out, hr]
    unfold maxLen at hm
    clear HS hr
    go_enter Tryz.func36, Tryz.ntmps36
    go_wp2_with (go_at_call 68; refine (C _).mono ?_; rintro e w' ⟨rfl, rfl⟩)
    go_ret
    exact ⟨by rw [Bool.false_and]; rfl, rfl⟩
  | true =>
    rw [hr] at C
    rw [HS.out, hr]
    have hm2 : m = 2 := by simp at hr; exact hr.2
    clear HS hr hm
    subst hm2
    match K, hl with
    | [q, r], _ =>
      obtain ⟨b, o, rfl, hb, hc⟩ := hK 0 q rfl
      simp only [Nat.add_zero] at hc
      have HS : Hid ((true && ([q, r].headD 0 == 17 || [q, r].headD 0 == 20 || [q, r].headD 0 == 21 || [q, r].headD 0 == 30)) = (q == 17 || q == 20 || q == 21 || q == 30)) := rfl
      rw [HS.out]
      clear HS
      go_enter Tryz.func36, Tryz.ntmps36
      go_wp2_with (go_at_call 68; refine (C _).mono ?_; rintro e w' ⟨rfl, rfl⟩)
      all_goals go_ret
      all_goals refine ⟨congrArg (fun b => Ending.returned (Value.bool b)) ?_, rfl⟩
      all_goals first | rfl | (simp_all; done) | skip

set_option maxRecDepth 100000 in
set_option maxHeartbeats 1000000 in
theorem shape_fn (hl : K.length = m) (hm : m ≤ maxLen) (hmc : m ≤ c) (hK : KAt B w a K) :
    Calls Tryz.prog 36 #[.int .i64 3, .slice a m c] w fun e w' => e = .returned (.bool (shapeL 3 K)) ∧ w' = w := by
  by_cases h0 : m = 0
  · subst h0
    have : K = [] := by rw [← List.length_eq_zero_iff]; exact hl
    subst this
    have HS : Hid (shapeL 3 [] = false) := rfl
    rw [HS.out]
    go_enter Tryz.func36, Tryz.ntmps36
    go_wp2
    go_ret
    exact ⟨rfl, rfl⟩
  · have hx : K[m - 1]? = some (K[m - 1]'(by omega)) := List.getElem?_eq_getElem _
    generalize K[m - 1]'(by omega) = q at hx
    obtain ⟨b, o, rfl, hb, hc⟩ := hK (m - 1) q hx
    have hKt : KAt B w (some ⟨b, o, none⟩) (K.take (m - 1)) := fun j k hj => by
      refine hK j k ?_
      rw [List.getElem?_take] at hj
      split at hj
      · exact hj
      · cases hj
    have C := fun c => all_any B w (K.take (m - 1)) (some ⟨b, o, none⟩) (m - 1) c 17 (by simp; omega) (by omega) hKt
    have HS : Hid (shapeL 3 K = (allE (· == 17) (K.take (m - 1)) && (q == 4))) := by
      unfold Hid
      have e1 : shapeL 3 K = (decide (0 < K.length) && (K.take (K.length - 1)).all (· == 17) && decide (K.getLastD 0 = 4)) := rfl
      have e2 : K.getLastD 0 = q := by rw [List.getLastD_eq_getLast?, List.getLast?_eq_getElem?, hl, hx]; rfl
      rw [e1, e2, hl, decide_eq_true (show 0 < m by omega), Bool.true_and]
      rfl
    rw [HS.out]
    clear HS hx hK hKt
    generalize allE (· == 17) (K.take (m - 1)) = R at *
    have hp1 : (m : Int) - 1 = ((m - 1 : Nat) : Int) := by omega
    unfold maxLen at hm
    cases R
    all_goals
      go_enter Tryz.func36, Tryz.ntmps36
      go_wp2_with (go_at_call 66; refine (C _).mono ?_; rintro e w' ⟨rfl, rfl⟩)
      go_ret
      exact ⟨rfl, rfl⟩
end
theorem shape_any (B : Nat) (w : World) (K : List Int) (a : Option Addr) (m c : Nat) (k : Int) (hk : 1 ≤ k ∧ k ≤ 30) (hl : K.length = m) (hm : m ≤ maxLen) (hmc : m ≤ c) (hK : KAt B w a K) :
    Calls Tryz.prog 36 #[.int .i64 k, .slice a m c] w fun e w' => e = .returned (.bool (shapeL k K)) ∧ w' = w := by
  have hc : k = 1 ∨ k = 3 ∨ k = 4 ∨ k = 6 ∨ k = 7 ∨ k = 8 ∨ k = 12 ∨ k = 22 ∨ (k = 2 ∨ k = 13) ∨ (k = 5 ∨ k = 9 ∨ k = 10 ∨ k = 11 ∨ k = 18 ∨ k = 20 ∨ k = 24 ∨ k = 25 ∨ k = 27 ∨ k = 29) ∨ (k = 19 ∨ k = 21) ∨ (k = 14 ∨ k = 15 ∨ k = 16 ∨ k = 17 ∨ k = 23 ∨ k = 26 ∨ k = 28 ∨ k = 30) := by omega
  rcases hc with rfl | rfl | rfl | rfl | rfl | rfl | rfl | rfl | h | h | h | h
  · exact shape_prog hl hm hK
  · exact shape_fn hl hm hmc hK
  · exact shape_block hl hm hK
  · exact shape_set hl hm hK
  · exact shape_if hl hm hK
  · exact shape_while hl hm hK
  · exact shape_do hl hm hK
  · exact shape_call hl hm hK
  · exact shape_names k h hl hm hK
  · exact shape_one k h hl hm hK
  · exact shape_two k h hl hm hK
  · exact shape_none k h hl hm
end Go.Proofs.YtnkjgggbiokfbaaGreatDoor.T5
namespace Go.Proofs.YtnkjgggbiokfbaaGreatDoor.T5
open Go.RowKit
set_option maxRecDepth 100000
set_option linter.unusedVariables false
set_option linter.unusedSimpArgs false

/-- A row of numbers of one's own, that grows. -/
def OR (w : World) (base : Nat) (v : Value) (K : List Int) : Prop := w.ownsRow base 3 1 v K.length (K.map (Value.int .i64))
theorem OR.nil (w : World) (base : Nat) : OR w base (.slice none 0 0) [] := World.ownsRow_nil _ _ _ _
theorem OR.fr {w w' : World} {base : Nat} {v : Value} {K : List Int} {S : List Nat} (h : OR w base v K) (f : Fr S w w') (hS : ∀ k, k ∈ S → k < base) : OR w' base v K := by
  obtain ⟨h1, h2⟩ := h
  refine ⟨h1, ?_⟩
  rcases h2 with h2 | ⟨g, cap, cur, e, hb, hg, r⟩
  · exact .inl h2
  · exact .inr ⟨g, cap, cur, e, hb, (f.block g (Array.getElem?_eq_some_iff.1 hg).1 (fun hm => by have := hS g hm; omega)).trans hg, r⟩
theorem OR.slice {w : World} {base : Nat} {v : Value} {K : List Int} (h : OR w base v K) : ∃ a c, v = .slice a K.length c ∧ K.length ≤ c ∧ (a = none → c = 0) := by
  obtain ⟨h1, h2⟩ := h
  rcases h2 with ⟨e, h0⟩ | ⟨g, cap, cur, e, hb, hg, hc, _⟩
  · exact ⟨none, 0, by rw [h0]; exact e, by omega, fun _ => rfl⟩
  · exact ⟨_, cap, e, hc, fun h => by cases h⟩
theorem OR.kat {w : World} {base : Nat} {a : Option Addr} {c : Nat} {K : List Int} (h : OR w base (.slice a K.length c) K) : KAt w.heap.size w a K := fun j k hj => by
  have hlt := (List.getElem?_eq_some_iff.1 hj).1
  obtain ⟨h1, h2⟩ := h
  rcases h2 with ⟨e, h0⟩ | ⟨g, cap, cur, e, hb, hg, hc, hm, hs, ht⟩
  · omega
  · injection e with e1 e2 e3
    subst e1
    have hcell : cur.toList[j]? = some (.int .i64 k) := by
      have : (cur.toList.take (K.length * 1))[j]? = (K.map (Value.int .i64))[j]? := by rw [ht]
      rw [List.getElem?_take_of_lt (by omega)] at this
      rw [this]
      simp [hj]
    refine ⟨g, 0, rfl, (Array.getElem?_eq_some_iff.1 hg).1, ?_⟩
    simp only [World.cell?, hg, Nat.zero_add]
    simpa using hcell
theorem Fr.ofGrown {w w' : World} {row : Option Nat} (hg : w.grownBy w' row) : Fr row.toList w w' :=
  Fr.grown (Fr.refl _ _) hg (fun k e => .inl (by rw [e]; simp))

/-! What the document says of one node. -/
theorem want_some {k : Int} (h : 1 ≤ k ∧ k ≤ 30) : ∃ t ls, wantL k = some (t, ls) := by
  have hc : k = 1 ∨ k = 2 ∨ k = 3 ∨ k = 4 ∨ k = 5 ∨ k = 6 ∨ k = 7 ∨ k = 8 ∨ k = 9 ∨ k = 10 ∨ k = 11 ∨ k = 12 ∨ k = 13 ∨ k = 14 ∨ k = 15 ∨ k = 16 ∨ k = 17 ∨ k = 18 ∨ k = 19 ∨ k = 20 ∨ k = 21 ∨ k = 22 ∨ k = 23 ∨ k = 24 ∨ k = 25 ∨ k = 26 ∨ k = 27 ∨ k = 28 ∨ k = 29 ∨ k = 30 := by omega
  rcases hc with rfl | rfl | rfl | rfl | rfl | rfl | rfl | rfl | rfl | rfl | rfl | rfl | rfl | rfl | rfl | rfl | rfl | rfl | rfl | rfl | rfl | rfl | rfl | rfl | rfl | rfl | rfl | rfl | rfl | rfl <;> exact ⟨_, _, rfl⟩
theorem node_take {L : List Nd} {n : Nat} {x : Nd} {T : List Bool} (h : takeL n x.ks T = none) : nodeE L n x T = .error 50 := by
  unfold nodeE
  split
  · rfl
  · split
    · rfl
    · simp only [h]
theorem node_odd {L : List Nd} {n : Nat} {x : Nd} {T : List Bool} (h : x.pl < 0 ∨ x.kind < 1 ∨ 30 < x.kind) : nodeE L n x T = .error 50 := by
  unfold nodeE
  split
  · rfl
  · rename_i t ls hw
    have : x.pl < 0 := by
      rcases h with h | h
      · exact h
      · rw [lookup_want _ h] at hw; cases hw
    rw [if_pos this]
theorem node_rest {L : List Nd} {n : Nat} {x : Nd} {T T' : List Bool} {t : Nat} {ls : List UInt8} (hw : wantL x.kind = some (t, ls)) (hp : ¬ x.pl < 0) (h : takeL n x.ks T = some T') : nodeE L n x T = if textL t x.text = false then .error 52 else if shapeL x.kind (x.ks.map (kd L)) = false then .error 53 else .ok T' := by
  unfold nodeE
  rw [hw]
  simp only [h]
  rw [if_neg hp, shape_fit _ _ _ _ hw]

theorem take_true {n : Nat} : ∀ (ks : List Int) (T T' : List Bool) (k : Nat), takeL n ks T = some T' → T'.getD k false = true → T.getD k false = true ∨ (k : Int) ∈ ks
  | [], T, T', k, h, ht => by simp [takeL] at h; subst h; exact .inl ht
  | q :: r, T, T', k, h, ht => by
    simp only [takeL] at h
    split at h
    · cases h
    · rename_i hn
      rcases take_true r _ _ k h ht with h1 | h1
      · by_cases e : k = q.toNat
        · refine .inr ?_
          have : (k : Int) = q := by omega
          rw [this]; simp
        · refine .inl ?_
          rw [List.getD_eq_getElem?_getD, List.getElem?_set_ne (fun e' => e e'.symm)] at h1
          rw [List.getD_eq_getElem?_getD]; exact h1
      · exact .inr (List.mem_cons_of_mem _ h1)
theorem prog_unused {L : List Nd} : ∀ (n : Nat) (T : List Bool), nodesL L n = .ok T → ∀ k : Nat, T.getD k false = true → kd L (k : Int) ≠ 1
  | 0, T, h, k, ht => by
    simp [nodesL] at h
    subst h
    rw [List.getD_eq_getElem?_getD, List.getElem?_replicate] at ht
    split at ht <;> simp at ht
  | n + 1, T, h, k, ht => by
    unfold nodesL at h
    split at h
    · cases h
    · rename_i T0 h0
      have ih := prog_unused n T0 h0 k
      split at h
      · cases h; exact ih ht
      · rename_i x hx
        split at h
        · cases h
        · rename_i T1 h1
          cases h
          unfold nodeE at h1
          split at h1
          · cases h1
          · split at h1
            · cases h1
            · split at h1
              · cases h1
              · rename_i T2 ht2
                split at h1
                · cases h1
                · split at h1
                  · cases h1
                  · rename_i hfit
                    cases h1
                    rcases take_true _ _ _ k ht2 ht with h3 | h3
                    · exact ih h3
                    · intro e
                      have := fit_kind _ _ (by simpa using hfit)
                      apply this
                      rw [← e]
                      exact List.mem_map_of_mem h3
theorem has0_of {T : List Bool} {n i : Nat} (hi : i < n) (hl : i < T.length) (h : T.getD i false = false) : has0 T n = true := by
  refine contains_mono hi ?_
  rw [take_snocB hl, h]
  simp
theorem has0_not {T : List Bool} : ∀ (n : Nat), n ≤ T.length → (∀ i, i < n → T.getD i false = true) → has0 T n = false
  | 0, _, _ => by simp [has0]
  | n + 1, hl, h => by
    rw [take_snocB (by omega), has0_not n (by omega) (fun i hi => h i (by omega)), h n (by omega)]
    rfl
end Go.Proofs.YtnkjgggbiokfbaaGreatDoor.T5
namespace Go.Proofs.YtnkjgggbiokfbaaGreatDoor.T5
open Go.RowKit
set_option maxRecDepth 100000
set_option linter.unusedVariables false
set_option linter.unusedSimpArgs false

theorem count_up {U : List Bool} {r : Nat} (h : r < U.length) (hf : U.getD r false = false) : (U.set r true).count true = U.count true + 1 := by
  rw [List.count_set h]
  have : U[r] = false := by rw [List.getD_eq_getElem?_getD, List.getElem?_eq_getElem h] at hf; simpa using hf
  rw [this]
  simp

def nodeV (x : Nd) : Array Value := #[.int .i64 x.kind, .string x.text, .slice x.a x.ks.length x.c, .int .i64 x.pl]

set_option maxRecDepth 100000 in
set_option maxHeartbeats 4000000 in
theorem rcheck_any (B : Nat) (L : List Nd) (w : World) (a : Option Addr) (len cap : Nat) (hlen : L.length = len) (hL : NAt B w a L) (hm : len ≤ 2600000000000) (hB : B ≤ w.heap.size) :
    Calls Tryz.prog 14 #[.slice a len cap] w fun e w' => e = cOut (checkL L) ∧ Fr [] w w' := by
  have HL : Hid (L.length = len) := hlen
  have HB : Hid (B ≤ w.heap.size) := hB
  have hLL := hlen
  clear hB hlen
  by_cases h0 : 50000 < len
  · have HC : Hid (checkL L = (0, 2)) := check_long (by rw [HL.out]; exact h0)
    go_enter Tryz.func14, Tryz.ntmps14
    go_wp2
    go_ret2
    exact ⟨by rw [HC.out]; rfl, Fr.refl _ _⟩
  · have HS : Hid (¬ 50000 < L.length) := by unfold Hid; rw [HL.out]; exact h0
    have hmk := make_bools w len (by omega)
    have T0 : TB (w.alloc (.cells ((List.replicate len false).map Value.bool).toArray 4)) w.heap.size (List.replicate len false) := heap_alloc_new w _
    have f0 : Fr [] w (w.alloc (.cells ((List.replicate len false).map Value.bool).toArray 4)) := (Fr.refl _ _).alloc _
    generalize hw0 : w.alloc (.cells ((List.replicate len false).map Value.bool).toArray 4) = w0 at *
    clear hw0
    obtain ⟨i3, hi, hz, hz1, hby⟩ := info_parts info3
    go_enter Tryz.func14, Tryz.ntmps14
    go_wp2
    go_loopw [21] (fun i wr => ∃ p : Nat, p ≤ len ∧ i = .int .i64 p ∧ Fr [] w wr ∧ ∃ T : List Bool, TB wr w.heap.size T ∧ T.length = len ∧ Hid (nodesL L p = .ok T)) (fun i _ => len - (intOf i).toNat)
    case atStart => exact ⟨0, Nat.zero_le _, rfl, f0, _, T0, by simp, by unfold Hid; rw [nodesL, HL.out]⟩
    case round =>
      obtain ⟨p, hp, rfl, fw, T, hT, hTl, he⟩ := hrel
      clear T0 hmk
      have HTl : Hid (T.length = len) := hTl
      by_cases hlt : p < len
      · have hx : L[p]? = some (L[p]'(by rw [HL.out]; exact hlt)) := List.getElem?_eq_getElem _
        generalize L[p]'(by rw [HL.out]; exact hlt) = x at hx
        have HX : Hid (L[p]? = some x) := hx
        have hsz := fw.size
        have HGW : Hid (w.heap.size < wr.heap.size) := hT.lt
        obtain ⟨b, o, rfl, hb, hN⟩ := (hL.fr fw (by simp)) p x hx
        obtain ⟨kind, text, xa, xc, ks, pl⟩ := x
        obtain ⟨q0, q1, q2, q3, hkk0, htx, hkl, _, _⟩ := hN
        simp only at q0 q1 q2 q3 hkk0 hkl htx
        have f1 : Fr [] wr (wr.alloc (.cells #[.int .i64 kind, .string text, .slice xa ks.length xc, .int .i64 pl] 37)) := (Fr.refl _ _).alloc _
        have B1 : (wr.alloc (.cells #[.int .i64 kind, .string text, .slice xa ks.length xc, .int .i64 pl] 37)).heap[wr.heap.size]? = some (.cells #[.int .i64 kind, .string text, .slice xa ks.length xc, .int .i64 pl] 37) := heap_alloc_new wr _
        have hT1 := hT.fr f1 (by simp)
        have fw1 := fw.trans f1
        have hkk := hkk0.fr f1 (by simp)
        have hs1 : (wr.alloc (.cells #[.int .i64 kind, .string text, .slice xa ks.length xc, .int .i64 pl] 37)).heap.size = wr.heap.size + 1 := by simp
        have hLr := hL.fr fw1 (by simp)
        unfold maxLen at hkl
        clear hT hkk0 hx f1 hTl
        go_wp2
        generalize wr.alloc (.cells #[.int .i64 kind, .string text, .slice xa ks.length xc, .int .i64 pl] 37) = A at *
        have HS1 : Hid (A.heap.size = wr.heap.size + 1) := hs1
        clear hs1 hsz fw
        generalize wr.heap.size = N at *
        go_loopw [7, 29] (fun kv j wq => ∃ (q : Nat) (U : List Bool), q ≤ ks.length ∧ j = .int .i64 q ∧ Fr [w.heap.size] A wq ∧ OR wq A.heap.size kv ((ks.take q).map (kd L)) ∧ TB wq w.heap.size U ∧ U.length = len ∧ Hid (takeL p (ks.drop q) U = takeL p ks T) ∧ Hid (q ≤ U.count true)) (fun _ j _ => ks.length - (intOf j).toNat)
        case atStart => exact ⟨0, T, Nat.zero_le _, rfl, Fr.refl _ _, OR.nil _ _, hT1, HTl.out, rfl, Nat.zero_le _⟩
        case round =>
          obtain ⟨q, U, hq, rfl, fq, hO, hU, hUl, hta, hcnt⟩ := hrel
          clear hT1 q0 q1 q2 q3
          have HUl : Hid (U.length = len) := hUl
          clear hUl
          obtain ⟨av, cv, e, hcv, _⟩ := hO.slice
          have hKn : ((ks.take q).map (kd L)).length = q := by simp; omega
          rw [hKn] at e hcv
          subst e
          have HCV : Hid (q ≤ cv) := hcv
          have HNG : Hid (w.heap.size ≠ N) := by unfold Hid; have := HGW.out; omega
          clear hcv
          have hwA : Fr [] w wr := fw1.over fq (by simp)
          have hszq := fq.size
          have HSQ : Hid (A.heap.size ≤ wr.heap.size) := hszq
          clear hszq
          have hown : wr.ownsRow A.heap.size 3 1 (.slice av q cv) q (((ks.take q).map (kd L)).map (Value.int .i64)) := by
            have := hO
            unfold OR at this
            rw [hKn] at this
            exact this
          have HGA : Hid (w.heap.size < A.heap.size) := by unfold Hid; have := HS1.out; have := HGW.out; omega
          by_cases hql : q < ks.length
          · have hk : ks[q]? = some ks[q] := List.getElem?_eq_getElem hql
            have hdr := List.drop_eq_getElem_cons hql
            generalize ks[q] = k at hk hdr
            obtain ⟨kb, ko, rfl, hkb, hcell⟩ := (hkk.fr fq (by simpa using HB.out)) q k hk
            have HE : Hid (takeL p (k :: ks.drop (q + 1)) U = takeL p ks T) := by unfold Hid; rw [← hta.out, hdr]
            have HST : Hid (k < 0 ∨ (p : Int) ≤ k ∨ U.getD k.toNat false = true → takeL p ks T = none) := fun h => by rw [← HE.out, takeL, if_pos h]
            have HG : Hid (¬ (k < 0 ∨ (p : Int) ≤ k ∨ U.getD k.toNat false = true) → takeL p (ks.drop (q + 1)) (U.set k.toNat true) = takeL p ks T) := fun h => by rw [← HE.out, takeL, if_neg h]
            have HBAD : Hid (takeL p ks T = none → checkL L = (p, 50)) := fun h => check_err HS.out (nodes_err he.out HX.out (node_take h))
            have HTK : Hid ((ks.take (q + 1)).map (kd L) = (ks.take q).map (kd L) ++ [kd L k]) := by unfold Hid; rw [List.take_add_one, hk]; simp
            clear HE hta hdr hk
            by_cases h1 : k < 0
            · have HR : Hid _ := HBAD.out (HST.out (.inl h1))
              clear HST HG HBAD hO
              go_wp2
              go_ret2
              exact ⟨by rw [HR.out]; rfl, hwA⟩
            · by_cases h2 : (p : Int) ≤ k
              · have HR : Hid _ := HBAD.out (HST.out (.inr (.inl h2)))
                clear HST HG HBAD hO
                go_wp2
                go_ret2
                exact ⟨by rw [HR.out]; rfl, hwA⟩
              · obtain ⟨r, rfl⟩ := Int.eq_ofNat_of_zero_le (show 0 ≤ k by omega)
                have hrp : r < p := by omega
                have hc := hU.cell (i := r) (by rw [HUl.out]; omega)
                simp only [Int.toNat_natCast] at HST HG
                cases h3 : U.getD r false with
                | true =>
                  have HR : Hid _ := HBAD.out (HST.out (.inr (.inr h3)))
                  rw [h3] at hc
                  clear HST HG HBAD h3 hO
                  go_wp2
                  go_ret2
                  exact ⟨by rw [HR.out]; rfl, hwA⟩
                | false =>
                  have HR : Hid _ := HG.out (by rw [h3]; simp; omega)
                  rw [h3] at hc
                  have hrl : r < L.length := by rw [HL.out]; omega
                  have hy : L[r]? = some L[r] := List.getElem?_eq_getElem hrl
                  generalize L[r] = y at hy
                  obtain ⟨b', o', e, hb', hNy⟩ := (hLr.fr fq (by simpa using HB.out)) r y hy
                  injection e with e
                  injection e with e1 e2
                  subst e1 e2
                  have c0 := hNy.c0
                  have HCU : Hid ((U.set r true).count true = U.count true + 1) := count_up (by rw [HUl.out]; omega) h3
                  have hq5 : q + 1 ≤ 50000 := by
                    have h5 := List.count_le_length (a := true) (l := U.set r true)
                    rw [HCU.out, List.length_set, HUl.out] at h5
                    have := hcnt.out
                    omega
                  have HKY : Hid (kd L (r : Int) = y.kind) := kd_at hy
                  have hbg : b ≠ w.heap.size := by have := HB.out; omega
                  have hS := hU.set r true
                  have hfz := hU.fz r
                  have hb1 := World.block_lt_of_cell? wr _ c0
                  simp only at hb1
                  have own1 : (wr.setCell ⟨w.heap.size, r, none⟩ (.bool true)).ownsRow A.heap.size 3 1 (.slice av q cv) q (((ks.take q).map (kd L)).map (Value.int .i64)) := by
                    have f : Fr [w.heap.size] wr (wr.setCell ⟨w.heap.size, r, none⟩ (.bool true)) := (Fr.refl _ _).setCell (p := ⟨w.heap.size, r, none⟩) (.inl (by simp)) _
                    have := hO.fr f (by have := HGA.out; simpa using this)
                    unfold OR at this
                    rw [hKn] at this
                    exact this
                  have gq := fq.setCell (p := ⟨w.heap.size, r, none⟩) (.inl (by simp)) (.bool true)
                  have szS : (wr.setCell ⟨w.heap.size, r, none⟩ (.bool true)).heap.size = wr.heap.size := by simp
                  clear HST HG HBAD h3 hO hNy hy
                  generalize hxs' : ((ks.take q).map (kd L)).map (Value.int .i64) = xs at *
                  have hxs : Hid (((ks.take q).map (kd L)).map (Value.int .i64) = xs) := hxs'
                  clear hxs'
                  go_wp2_with (at_builtin; refine wpList_append_own _ rfl _ _ 35 rfl A.heap.size 3 i3 (.int .i64 0) 1 8 Tryz.underlying35 hi hz hz1 hby rfl (by decide) (.slice av q cv) q xs rfl ?own ⟨wr.heap.size, 0, none⟩ 1 1 [.int .i64 y.kind] rfl rfl ?news (by simp [Value.oneCell']) (by unfold maxLen; omega) (by omega) ?base ?_)
                  case own => exact own1.alloc _
                  case base => have := HSQ.out; omega
                  intro v1 w3 hown1 hgrow _
                  have hrow : ∀ k, (Value.slice av q cv).ownBlock = some k → A.heap.size ≤ k := fun k e => (hown.lt k e).1
                  have F3 : Fr [w.heap.size] A w3 := (gq.alloc _).grown hgrow (fun k e => .inr (hrow k e))
                  have hT3 : TB w3 w.heap.size (U.set r true) := by
                    refine ((hS.fr ((Fr.refl [] _).alloc _) (by simp)).fr (Fr.ofGrown hgrow) ?_)
                    intro hm
                    have := hrow _ (by simpa using hm)
                    have := HGA.out
                    omega
                  have HOR : Hid (OR w3 A.heap.size v1 ((ks.take (q + 1)).map (kd L))) := by
                    unfold Hid OR
                    rw [HTK.out, HKY.out, List.map_append, hxs.out, List.length_append, hKn]
                    exact hown1
                  have HCN : Hid (q + 1 ≤ (U.set r true).count true) := by unfold Hid; rw [HCU.out]; have := hcnt.out; omega
                  clear hown1 hgrow hown own1 gq hS hrow hc c0 hcell
                  go_wp2
                  go_roundw
                  case rel => exact ⟨q + 1, U.set r true, hql, by go_num, F3, HOR.out, hT3, by rw [List.length_set]; exact HUl.out, HR, HCN⟩
                  case measure => simp [intOf]; omega
          · have hqe : q = ks.length := by omega
            have HTA : Hid (takeL p ks T = some U) := by
              unfold Hid
              rw [← hta.out, List.drop_of_length_le (by omega)]
              rfl
            have hKe : (ks.take q).map (kd L) = ks.map (kd L) := by rw [List.take_of_length_le (by omega)]
            rw [hKe] at hO
            have hb2 : wr.heap[N]? = some (.cells #[.int .i64 kind, .string text, .slice xa ks.length xc, .int .i64 pl] 37) := (fq.block N (by have := HS1.out; omega) (by have := HNG.out; simp; omega)).trans B1
            have d0 : wr.cell? ⟨N, 0, none⟩ = some (.int .i64 kind) := by simp [World.cell?, hb2]
            have d1 : wr.cell? ⟨N, 1, none⟩ = some (.string text) := by simp [World.cell?, hb2]
            have d2 : wr.cell? ⟨N, 2, none⟩ = some (.slice xa ks.length xc) := by simp [World.cell?, hb2]
            have d3 : wr.cell? ⟨N, 3, none⟩ = some (.int .i64 pl) := by simp [World.cell?, hb2]
            have HBAD : Hid (∀ er, nodeE L p ⟨kind, text, xa, xc, ks, pl⟩ T = .error er → checkL L = (p, er)) := fun er h => check_err HS.out (nodes_err he.out HX.out h)
            have HGOOD : Hid (nodeE L p ⟨kind, text, xa, xc, ks, pl⟩ T = .ok U → nodesL L (p + 1) = .ok U) := fun h => nodes_ok he.out HX.out h
            clear hta he HX hown
            by_cases h1 : pl < 0 ∨ kind < 1 ∨ 30 < kind
            · have HR : Hid _ := HBAD.out 50 (node_odd h1)
              clear HBAD HGOOD hO hLr
              rcases h1 with h1 | h1 | h1
              · go_wp2
                go_ret2
                exact ⟨by rw [HR.out]; rfl, hwA⟩
              · by_cases h2 : pl < 0
                · go_wp2
                  go_ret2
                  exact ⟨by rw [HR.out]; rfl, hwA⟩
                · go_wp2
                  go_ret2
                  exact ⟨by rw [HR.out]; rfl, hwA⟩
              · by_cases h2 : pl < 0
                · go_wp2
                  go_ret2
                  exact ⟨by rw [HR.out]; rfl, hwA⟩
                · go_wp2
                  go_ret2
                  exact ⟨by rw [HR.out]; rfl, hwA⟩
            · have hk : 1 ≤ kind ∧ kind ≤ 30 := by omega
              have hpl : ¬ pl < 0 := by omega
              obtain ⟨t, ls, hw⟩ := want_some hk
              have HN : Hid _ := node_rest (L := L) (n := p) (x := ⟨kind, text, xa, xc, ks, pl⟩) (T := T) hw hpl HTA.out
              have CT := fun w' => rtext_any ⟨kind, text, xa, xc, ks, pl⟩ w' htx t ls hw
              clear hw h1 HTA
              simp only at HN CT
              have CS := fun w' (f : Fr [] wr w') => shape_any w'.heap.size w' (ks.map (kd L)) av q cv kind hk (by simp; omega) (by unfold maxLen; omega) HCV.out (by
                have h9 : OR w' A.heap.size (.slice av (ks.map (kd L)).length cv) (ks.map (kd L)) := by
                  have := hO.fr f (by simp)
                  rw [hqe] at this
                  rw [List.length_map]
                  exact this
                exact h9.kat)
              clear hO hb2 hqe hKe hKn
              generalize textL t text = rt at *
              generalize shapeL kind (ks.map (kd L)) = rs at *
              cases rt with
              | false =>
                have HR : Hid (checkL L = (p, 52)) := HBAD.out 52 (by rw [HN.out]; rfl)
                clear HBAD HGOOD CS hLr
                go_wp2_with (go_at_call 35; refine (CT _).mono ?_; rintro e w' ⟨rfl, f2⟩)
                go_ret2
                exact ⟨by rw [HR.out]; rfl, hwA.trans f2⟩
              | true =>
                cases rs with
                | false =>
                  have HR : Hid (checkL L = (p, 53)) := HBAD.out 53 (by rw [HN.out]; rfl)
                  clear HBAD HGOOD hLr
                  go_wp2_with fail
                  refine (CT _).mono ?_
                  rintro e w' ⟨rfl, f2⟩
                  have e0 := f2.cell1 d0 (by simp)
                  have CS := CS w' f2
                  clear d0 d1 d2 d3 CT
                  go_wp2_with (go_at_call 36; refine CS.mono ?_; rintro e w'' ⟨rfl, rfl⟩)
                  go_ret2
                  exact ⟨by rw [HR.out]; rfl, hwA.trans f2⟩
                | true =>
                  have HR : Hid (nodesL L (p + 1) = .ok U) := HGOOD.out (by rw [HN.out]; rfl)
                  clear HBAD HGOOD hLr
                  go_wp2_with fail
                  refine (CT _).mono ?_
                  rintro e w' ⟨rfl, f2⟩
                  have e0 := f2.cell1 d0 (by simp)
                  have hU2 := hU.fr f2 (by simp)
                  have CS := CS w' f2
                  clear d0 d1 d2 d3 CT
                  go_wp2_with (go_at_call 36; refine CS.mono ?_; rintro e w'' ⟨rfl, rfl⟩)
                  go_roundw
                  case rel => exact ⟨p + 1, hlt, by go_num, hwA.trans f2, U, hU2, HUl.out, HR⟩
                  case measure => simp [intOf]; omega
      · have hpe : p = len := by omega
        subst hpe
        have HN : Hid (nodesL L L.length = .ok T) := by unfold Hid; rw [HL.out]; exact he.out
        clear he
        by_cases hzz : p = 0
        · subst hzz
          have HR : Hid (checkL L = (0, 50)) := check_empty HL.out
          go_wp2
          go_ret2
          exact ⟨by rw [HR.out]; rfl, fw⟩
        · have HZ : Hid (L.length ≠ 0) := by unfold Hid; rw [HL.out]; exact hzz
          have hp1 : (p : Int) - 1 = ((p - 1 : Nat) : Int) := by omega
          have HBAD : Hid (∀ n : Nat, n < p → (n = p - 1 ∧ kd L (n : Int) ≠ 1) ∨ (n ≠ p - 1 ∧ (kd L (n : Int) = 1 ∨ T.getD n false = false)) → checkL L = (p - 1, 50)) := fun n hn h => by
            have e := HL.out
            rw [← e]
            refine check_last HS.out HN.out HZ.out ?_
            rw [e]
            rcases h with ⟨h1, h2⟩ | ⟨h1, h2⟩
            · rw [h1] at h2; exact .inl h2
            · refine .inr (has0_of (i := n) (by omega) (by rw [HTl.out]; exact hn) ?_)
              rcases h2 with h2 | h2
              · cases hq : T.getD n false with
                | false => rfl
                | true => exact absurd h2 (prog_unused _ _ HN.out n hq)
              · exact h2
          have HKD : ∀ (n : Nat) (x : Nd), L[n]? = some x → Hid (kd L (n : Int) = x.kind) := fun n x h => kd_at h
          clear HTl hTl
          have HTl : Hid (T.length = p) := by unfold Hid; rw [nodes_length _ _ HN.out]; exact HL.out
          go_wp2
          go_loopw [91] (fun i wq => ∃ n : Nat, n ≤ p ∧ i = .int .i64 n ∧ Fr [] w wq ∧ TB wq w.heap.size T ∧ Hid (∀ j : Nat, j < n → (j = p - 1 → kd L (j : Int) = 1) ∧ (j ≠ p - 1 → T.getD j false = true))) (fun i _ => p - (intOf i).toNat)
          case atStart => exact ⟨0, Nat.zero_le _, rfl, fw, hT, fun j hj => by omega⟩
          case round =>
            obtain ⟨n, hn, rfl, fq, hTq, hok⟩ := hrel
            clear hT fw
            by_cases hlt2 : n < p
            · have hx : L[n]? = some (L[n]'(by rw [HL.out]; exact hlt2)) := List.getElem?_eq_getElem _
              generalize L[n]'(by rw [HL.out]; exact hlt2) = x at hx
              have HK := HKD n x hx
              obtain ⟨b, o, rfl, hb, hN⟩ := (hL.fr fq (by simp)) n x hx
              obtain ⟨q0, q1, q2, q3, _, _, _, _, _⟩ := hN
              have hc := hTq.cell (i := n) (by rw [HTl.out]; exact hlt2)
              have hgl := hTq.lt
              have f1 : ∀ o, Fr [] wr (wr.alloc o) := fun o => (Fr.refl _ _).alloc _
              have hbl := World.block_lt_of_cell? wr _ q0
              simp only at hbl
              have HB1 : Hid _ := HBAD.out n hlt2
              rw [HK.out] at HB1
              have HOK : Hid ((n = p - 1 → x.kind = 1) → (n ≠ p - 1 → T.getD n false = true) → ∀ j : Nat, j < n + 1 → (j = p - 1 → kd L (j : Int) = 1) ∧ (j ≠ p - 1 → T.getD j false = true)) := fun h1 h2 j hj => by
                by_cases e : j = n
                · subst e
                  exact ⟨fun h => by rw [HK.out]; exact h1 h, h2⟩
                · exact hok.out j (by omega)
              clear hx hok HK
              generalize hu : T.getD n false = u at *
              clear hu
              by_cases hlast : n = p - 1
              · have hl' : ((n : Int) == ((p - 1 : Nat) : Int)) = true := by simp; omega
                have HLA : Hid (n = p - 1) := hlast
                clear hlast
                by_cases hk : x.kind = 1
                · have HR : Hid _ := HOK.out (fun _ => hk) (fun h => absurd HLA.out h)
                  clear HOK HB1
                  cases u
                  all_goals
                    go_wp2
                    go_roundw
                    case rel => exact ⟨n + 1, hlt2, by go_num, fq.trans (f1 _), hTq.fr (f1 _) (by simp), HR⟩
                    case measure => simp [intOf]; omega
                · have hk' : (x.kind == 1) = false := by simp [hk]
                  have HR : Hid _ := HB1.out (.inl ⟨HLA.out, hk⟩)
                  clear HOK HB1 hk
                  go_wp2
                  go_ret2
                  exact ⟨by rw [HR.out]; rfl, fq.trans (f1 _)⟩
              · have hl' : ((n : Int) == ((p - 1 : Nat) : Int)) = false := by simp; omega
                have HLA : Hid (n ≠ p - 1) := hlast
                clear hlast
                by_cases hk : x.kind = 1
                · have HR : Hid _ := HB1.out (.inr ⟨HLA.out, .inl hk⟩)
                  clear HOK HB1
                  go_wp2
                  go_ret2
                  exact ⟨by rw [HR.out]; rfl, fq.trans (f1 _)⟩
                · have hk' : (x.kind == 1) = false := by simp [hk]
                  cases u with
                  | true =>
                    have HR : Hid _ := HOK.out (fun h => absurd h HLA.out) (fun _ => rfl)
                    clear HOK HB1 hk
                    go_wp2
                    go_roundw
                    case rel => exact ⟨n + 1, hlt2, by go_num, fq.trans (f1 _), hTq.fr (f1 _) (by simp), HR⟩
                    case measure => simp [intOf]; omega
                  | false =>
                    have HR : Hid _ := HB1.out (.inr ⟨HLA.out, .inr rfl⟩)
                    clear HOK HB1 hk
                    go_wp2
                    go_ret2
                    exact ⟨by rw [HR.out]; rfl, fq.trans (f1 _)⟩
            · have hne : n = p := by omega
              subst hne
              have HK1 : Hid (kd L ((L.length - 1 : Nat) : Int) = 1) := by
                unfold Hid
                rw [HL.out]
                exact (hok.out (n - 1) (by omega)).1 rfl
              have HH : Hid (has0 T (L.length - 1) = false) := by
                unfold Hid
                rw [HL.out]
                exact has0_not _ (by rw [HTl.out]; omega) (fun j hj => (hok.out j (by omega)).2 (by omega))
              have CD := rdeep_any B L wr a n cap hLL (hL.fr fq (by simp)) hm (by have := fq.size; have := HB.out; omega)
              have hdl : deepL L ≤ n := by have := deepL_le L; rw [HL.out] at this; exact this
              clear hok
              by_cases hd : 200 < deepL L
              · have HR : Hid (checkL L = (0, 51)) := check_deep HS.out HN.out HZ.out HK1.out HH.out hd
                generalize deepL L = DD at *
                go_wp2_with (go_at_call 31; refine CD.mono ?_; rintro e w' ⟨rfl, f2⟩)
                go_ret2
                exact ⟨by rw [HR.out]; rfl, fq.trans f2⟩
              · have HR : Hid (checkL L = (0, 0)) := check_ok HS.out HN.out HZ.out HK1.out HH.out hd
                generalize deepL L = DD at *
                go_wp2_with (go_at_call 31; refine CD.mono ?_; rintro e w' ⟨rfl, f2⟩)
                go_ret2
                exact ⟨by rw [HR.out]; rfl, fq.trans f2⟩
end Go.Proofs.YtnkjgggbiokfbaaGreatDoor.T5
namespace Go.Proofs.YtnkjgggbiokfbaaGreatDoor.T5
open Go.RowKit
set_option maxRecDepth 100000
set_option linter.unusedVariables false
set_option linter.unusedSimpArgs false

theorem nodes_in {L : List Nd} : ∀ (n : Nat) (T : List Bool), nodesL L n = .ok T → ∀ (i : Nat) (x : Nd), i < n → L[i]? = some x → ∀ k ∈ x.ks, 0 ≤ k ∧ k < i
  | 0, T, h, i, x, hi, hx, k, hk => by omega
  | n + 1, T, h, i, x, hi, hx, k, hk => by
    unfold nodesL at h
    split at h
    · cases h
    · rename_i T0 h0
      by_cases e : i = n
      · subst e
        rw [hx] at h
        simp only at h
        split at h
        · cases h
        · rename_i T1 h1
          unfold nodeE at h1
          split at h1
          · cases h1
          · split at h1
            · cases h1
            · split at h1
              · cases h1
              · rename_i ht2
                exact take_in _ _ _ ht2 k hk
      · exact nodes_in n T0 h0 i x (by omega) hx k hk

/-- A list that Check takes. -/
theorem check_zero {L : List Nd} {p : Nat} (h : checkL L = (p, 0)) : ∃ T, nodesL L L.length = .ok T ∧ L.length ≠ 0 ∧ L.length ≤ 50000 ∧ kd L ((L.length - 1 : Nat) : Int) = 1 ∧ has0 T (L.length - 1) = false := by
  by_cases h0 : 50000 < L.length
  · rw [check_long h0] at h; cases h
  · cases hn : nodesL L L.length with
    | error e =>
      rw [check_err h0 hn] at h
      exfalso
      subst h
      have : ∀ n, nodesL L n ≠ .error (p, 0) := by
        intro n
        induction n with
        | zero => intro e; cases e
        | succ n ih =>
          intro e
          unfold nodesL at e
          split at e
          · rename_i e2 he2
            cases e
            exact ih he2
          · split at e
            · cases e
            · split at e
              · rename_i er he
                cases e
                have := node_err he
                omega
              · cases e
      exact this _ hn
    | ok T =>
      by_cases hz : L.length = 0
      · rw [check_empty hz] at h; cases h
      · by_cases hb : kd L ((L.length - 1 : Nat) : Int) ≠ 1 ∨ has0 T (L.length - 1) = true
        · rw [check_last h0 hn hz hb] at h; cases h
        · refine ⟨T, rfl, hz, by omega, ?_, ?_⟩
          · exact Decidable.byContradiction fun hh => hb (.inl hh)
          · cases hh : has0 T (L.length - 1) with
            | false => rfl
            | true => exact absurd (.inr hh) hb
end Go.Proofs.YtnkjgggbiokfbaaGreatDoor.T5
namespace Go.Proofs.YtnkjgggbiokfbaaGreatDoor
open Go.RowKit
set_option linter.unusedVariables false
set_option linter.unusedSimpArgs false

/-- What comes out keeps what every node has. -/
def Keep (Φ : PN → Prop) (ns : List PN) (r : R) : Prop := ∀ v j ms, r = some (.ok (v, j, ms)) → (∀ x ∈ ns, Φ x) → ∀ x ∈ ms, Φ x
section
variable {Φ : PN → Prop} {ts : List Tok}
theorem Keep.none {ns : List PN} : Keep Φ ns none := fun _ _ _ h => by cases h
theorem Keep.err {ns : List PN} {e : Nat} : Keep Φ ns (some (.error e)) := fun _ _ _ h => by cases h
theorem Keep.ok {ns : List PN} {v : List Nat} {i : Nat} : Keep Φ ns (some (.ok (v, i, ns))) := fun _ _ _ h hn => by cases h; exact hn
theorem Keep.bind {ns : List PN} {r : R} {k : List Nat → Nat → List PN → R} (h : Keep Φ ns r) (hk : ∀ v j ms, Keep Φ ms (k v j ms)) : Keep Φ ns (bindR r k) := by
  intro v j ms e hn
  rcases bindR_some e with ⟨er, hr, he⟩ | ⟨v1, j1, n1, hr, hP⟩
  · cases he
  · exact hk v1 j1 n1 v j ms hP (h v1 j1 n1 hr hn)
theorem Keep.want {ns : List PN} {s : List UInt8} {i : Nat} {x : R} (h : Keep Φ ns x) : Keep Φ ns (wantR ts s i x) := by
  unfold wantR
  split
  · exact h
  · exact Keep.err
theorem Keep.lay {kind : Nat} {text : List UInt8} {pl : Nat} {ks : List Nat} {i : Nat} {ns : List PN} (h : Φ ⟨kind, text, ks, pl⟩) : Keep Φ ns (layR kind text pl ks i ns) := by
  intro v j ms e hn
  cases e
  intro x hx
  rcases List.mem_append.1 hx with hx | hx
  · exact hn x hx
  · simp at hx; subst hx; exact h
theorem Keep.lay' {kind : Nat} {text : List UInt8} {pl : Nat} {ks : List Nat} {i : Nat} {ns : List PN} (h : (∀ x ∈ ns, Φ x) → Φ ⟨kind, text, ks, pl⟩) : Keep Φ ns (layR kind text pl ks i ns) := by
  intro v j ms e hn
  cases e
  intro x hx
  rcases List.mem_append.1 hx with hx | hx
  · exact hn x hx
  · simp at hx; subst hx; exact h hn
theorem laySg_keep (hΦ : ∀ (t : Tok) (n : Nat), Φ ⟨18, t.text, [n], t.frm⟩) : ∀ (acc : List Tok) (n : Nat) (ns : List PN), (∀ x ∈ ns, Φ x) → ∀ x ∈ (laySg acc n ns).2, Φ x
  | [], n, ns, h => h
  | t :: r, n, ns, h => by
    simp only [laySg]
    refine laySg_keep hΦ r _ _ (fun x hx => ?_)
    rcases List.mem_append.1 hx with hx | hx
    · exact h x hx
    · simp at hx; subst hx; exact hΦ t n
end
def LenOK (M : Nat) (x : PN) : Prop := x.text.length ≤ M ∧ x.pl ≤ M
def TLen (M : Nat) (t : Tok) : Prop := t.text.length ≤ M ∧ t.frm ≤ M
/-- The tokens of signs that are still to be laid. -/
def accT : NT → List Tok
  | .signedL acc => acc
  | .blockL pl _ => [⟨0, [], pl, 0, 0⟩]
  | .laySigns acc _ => acc
  | _ => []
theorem tk_len {ts : List Tok} {M : Nat} (h : ∀ i, i < ts.length → TLen M (tk ts i)) (i : Nat) : TLen M (tk ts i) := by
  by_cases hi : i < ts.length
  · exact h i hi
  · unfold tk
    rw [List.getD_eq_getElem?_getD, List.getElem?_eq_none (by omega)]
    simp [TLen]
theorem laySg_len2 {M : Nat} : ∀ (acc : List Tok) (n : Nat) (ns : List PN), (∀ t ∈ acc, TLen M t) → (∀ x ∈ ns, LenOK M x) → ∀ x ∈ (laySg acc n ns).2, LenOK M x
  | [], n, ns, _, h => h
  | t :: r, n, ns, ha, h => by
    simp only [laySg]
    refine laySg_len2 r _ _ (fun u hu => ha u (by simp [hu])) (fun x hx => ?_)
    rcases List.mem_append.1 hx with hx | hx
    · exact h x hx
    · simp at hx; subst hx; exact ha t (by simp)
theorem dec_len2 : ∀ (k n : Nat), n < 10 ^ (k + 1) → (Lib.decDigits n).length ≤ k + 1
  | 0, n, h => by rw [Lib.decDigits_one (by simpa using h)]; simp
  | k + 1, n, h => by
    by_cases h10 : n < 10
    · rw [Lib.decDigits_one h10]; simp
    · rw [Lib.decDigits, dif_neg h10, List.length_append]
      have := dec_len2 k (n / 10) (by
        rw [Nat.pow_succ] at h
        exact Nat.div_lt_of_lt_mul (by rw [Nat.mul_comm]; exact h))
      simp
      omega
theorem acc_decl {s : List UInt8} {nt : NT} (h : declNT s = some nt) : accT nt = [] := by
  unfold declNT at h
  repeat' (first | (cases h; done) | (cases h; rfl) | split at h)
theorem acc_stmt {s : List UInt8} {nt : NT} (h : stmtNT s = some nt) : accT nt = [] := by
  unfold stmtNT at h
  repeat' (first | (cases h; done) | (cases h; rfl) | split at h)
set_option maxHeartbeats 1000000 in
theorem acc_first {s : List UInt8} {nt : NT} (h : firstNT s = some nt) : accT nt = [] := by
  unfold firstNT at h
  by_cases e0 : s = [110, 117, 109, 98, 101, 114]
  · rw [if_pos e0] at h; cases h; rfl
  rw [if_neg e0] at h
  by_cases e1 : s = [110, 97, 109, 101]
  · rw [if_pos e1] at h; cases h; rfl
  rw [if_neg e1] at h
  by_cases e2 : s = [110, 117, 108, 108]
  · rw [if_pos e2] at h; cases h; rfl
  rw [if_neg e2] at h
  by_cases e3 : s = [114, 111, 111, 116]
  · rw [if_pos e3] at h; cases h; rfl
  rw [if_neg e3] at h
  by_cases e4 : s = [110, 101, 119]
  · rw [if_pos e4] at h; cases h; rfl
  rw [if_neg e4] at h
  by_cases e5 : s = [97, 114, 114]
  · rw [if_pos e5] at h; cases h; rfl
  rw [if_neg e5] at h
  by_cases e6 : s = [108, 101, 110]
  · rw [if_pos e6] at h; cases h; rfl
  rw [if_neg e6] at h
  by_cases e7 : s = [105, 110]
  · rw [if_pos e7] at h; cases h; rfl
  rw [if_neg e7] at h
  by_cases e8 : s = [105, 109, 103]
  · rw [if_pos e8] at h; cases h; rfl
  rw [if_neg e8] at h
  by_cases e9 : s = [115, 105, 122, 101]
  · rw [if_pos e9] at h; cases h; rfl
  rw [if_neg e9] at h
  by_cases e10 : s = [112, 114, 111, 109, 111, 116, 101]
  · rw [if_pos e10] at h; cases h; rfl
  rw [if_neg e10] at h
  by_cases e11 : s = [40]
  · rw [if_pos e11] at h; cases h; rfl
  rw [if_neg e11] at h
  cases h
theorem keep_len {ts : List Tok} {M : Nat} (hT : Toks ts) (hM : 20 ≤ M) (ht : ∀ i, i < ts.length → TLen M (tk ts i)) : ∀ (f : Nat) (nt : NT) (i : Nat) (ns : List PN), (∀ t ∈ accT nt, TLen M t) → Keep (LenOK M) ns (P ts f nt i ns) := by
  intro f
  have l0 : ∀ k ks j, LenOK M ⟨k, [], ks, (tk ts j).frm⟩ := fun _ _ j => ⟨by simp, (tk_len ht j).2⟩
  have l00 : ∀ k ks, LenOK M ⟨k, [], ks, 0⟩ := fun _ _ => ⟨by simp, by simp⟩
  have l1 : ∀ k j ks q, LenOK M ⟨k, (tk ts j).text, ks, (tk ts q).frm⟩ := fun _ j _ q => ⟨(tk_len ht j).1, (tk_len ht q).2⟩
  have l2 : ∀ k j ks q, LenOK M ⟨k, Lib.decDigits (tk ts j).n, ks, (tk ts q).frm⟩ := fun _ j _ q => by
    have := dec_len2 19 (tk ts j).n (by have := hT.num j; omega)
    have h2 := (tk_len ht q).2
    unfold LenOK
    simp only
    omega
  have l3 : ∀ (ns : List PN) k ks n, (∀ x ∈ ns, LenOK M x) → LenOK M ⟨k, [], ks, plN ns n⟩ := fun ns _ _ n h => by
    refine ⟨by simp, ?_⟩
    unfold plN
    cases hx : ns[n]? with
    | none => simp
    | some x => exact (h x (List.mem_of_getElem? hx)).2
  have nl : ∀ (nt : NT), accT nt = [] → ∀ t ∈ accT nt, TLen M t := fun nt h t hh => by rw [h] at hh; cases hh
  induction f with
  | zero => intro nt i ns _; exact Keep.none
  | succ f ih =>
    intro nt i ns ha
    cases nt
    all_goals simp only [P]
    case signedL acc =>
      split
      · refine ih (.signedL _) _ _ (fun t hh => ?_)
        rcases List.mem_append.1 hh with hh | hh
        · exact ha t hh
        · simp at hh; subst hh; exact tk_len ht i
      · refine Keep.bind (ih .back _ _ (nl _ rfl)) fun v j ms => ih (.laySigns _ _) _ _ (fun t hh => ha t (by simpa [accT] using hh))
    case block pl =>
      refine Keep.want (ih (.blockL _ _) _ _ (fun t hh => ?_))
      simp only [accT, List.mem_cons, List.not_mem_nil, or_false] at hh
      subst hh
      exact ⟨by simp, (tk_len ht i).2⟩
    case blockL pl acc =>
      have hpl : pl ≤ M := (ha ⟨0, [], pl, 0, 0⟩ (by simp [accT])).2
      split
      · exact Keep.lay ⟨by simp, hpl⟩
      · exact Keep.bind (ih .stmt _ _ (nl _ rfl)) fun v j ms => ih (.blockL _ _) _ _ ha
    case laySigns acc n =>
      intro v j ms e hn
      cases e
      exact laySg_len2 acc n ns ha hn
    all_goals
      repeat (first
        | exact Keep.err
        | exact Keep.ok
        | exact Keep.lay (l00 _ _)
        | exact Keep.lay (l0 _ _ _)
        | exact Keep.lay' (l3 _ _ _ _)
        | exact Keep.lay (l1 _ _ _ _)
        | exact Keep.lay (l2 _ _ _ _)
        | exact ih _ _ _ (nl _ rfl)
        | exact ih _ _ _ (nl _ (acc_decl (by assumption)))
        | exact ih _ _ _ (nl _ (acc_stmt (by assumption)))
        | exact ih _ _ _ (nl _ (acc_first (by assumption)))
        | (refine ih _ _ _ (nl _ ?_); split <;> rfl)
        | refine Keep.want ?_
        | (refine Keep.bind ?_ fun v j ms => ?_)
        | split)
end Go.Proofs.YtnkjgggbiokfbaaGreatDoor
namespace Go.Proofs.YtnkjgggbiokfbaaGreatDoor
open Go.RowKit
set_option maxRecDepth 100000

/-- A byte, 0 where there is none. -/
def atB (s : ByteArray) (i : Nat) : Nat := if h : i < s.size then s[i].toNat else 0
theorem atB_in {s : ByteArray} {i : Nat} (h : i < s.size) : atB s i = s[i].toNat := by unfold atB; rw [dif_pos h]
theorem atB_out {s : ByteArray} {i : Nat} (h : ¬ i < s.size) : atB s i = 0 := by unfold atB; rw [dif_neg h]
theorem atB_lt (s : ByteArray) (i : Nat) : atB s i < 256 := by
  unfold atB
  split
  · exact byte_lt _
  · omega

set_option linter.unusedVariables false in
theorem at_any (s : ByteArray) (i : Nat) (w : World) (hs : s.size ≤ maxLen) :
    Calls Tryz.prog 102 #[.string s, .int .i64 i] w fun e w' => e = .returned (.int .u8 (atB s i)) ∧ w' = w := by
  unfold maxLen at hs
  by_cases h : i < s.size
  · rw [atB_in h]
    go_enter Tryz.func102, Tryz.ntmps102
    go_wp2
    go_ret
    exact ⟨rfl, rfl⟩
  · rw [atB_out h]
    have h' : ¬ (i : Int) < s.size := by omega
    go_enter Tryz.func102, Tryz.ntmps102
    go_wp2
    go_ret
    exact ⟨rfl, rfl⟩

theorem note_at {s : ByteArray} {k : Nat} (h : k < s.size) : note s k = (decide (s[k].toNat = 47) && decide (atB s (k + 1) = 47)) := by
  unfold note
  rw [drop_cons s k h, pref_note, Bool.eq_iff_iff]
  by_cases h1 : k + 1 < s.size
  · rw [drop_cons s (k + 1) h1, atB_in h1]
    have k1 := u8eq s[k + 1] 47 (by decide)
    simp only [List.head?_cons, Option.some.injEq, decide_eq_true_eq, Bool.and_eq_true]
    rw [← k1]
    rfl
  · rw [drop_end s (k + 1) (by omega), atB_out h1]
    simp

theorem nlE_step {s : ByteArray} {k : Nat} (h : k < s.size) (h10 : ¬ s[k].toNat = 10) : nlE s k = nlE s (k + 1) := by
  unfold nlE
  rw [drop_cons s k h]
  simp only [toNl]
  rw [if_neg h10]
  omega
theorem nlE_stop {s : ByteArray} {k : Nat} (h : k < s.size) (h10 : s[k].toNat = 10) : nlE s k = k := by
  unfold nlE
  rw [drop_cons s k h]
  simp only [toNl]
  rw [if_pos h10]
  omega
theorem nlE_end {s : ByteArray} {k : Nat} (h : s.size ≤ k) : nlE s k = k := by
  unfold nlE
  rw [drop_end s k h]
  simp [toNl]

set_option maxRecDepth 100000 in
set_option maxHeartbeats 1000000 in
theorem skipR_any (s : ByteArray) (k0 : Nat) (w : World) (hs : s.size ≤ maxLen) (hk0 : k0 ≤ s.size) :
    Calls Tryz.prog 47 #[.string s, .int .i64 k0] w fun e w' => e = .returned (.int .i64 (skE s k0)) ∧ w' = w := by
  have hat := fun k w => at_any s (k + 1) w hs
  unfold maxLen at hs
  go_enter Tryz.func47, Tryz.ntmps47
  go_wp2
  go_loop [1] (fun i => ∃ k : Nat, k ≤ s.size ∧ i = .int .i64 k ∧ Hid (skE s k = skE s k0)) (fun i => s.size - (intOf i).toNat)
  case atStart => exact ⟨k0, hk0, rfl, rfl⟩
  case round =>
    obtain ⟨k, hk, rfl, he⟩ := hrel
    by_cases hlt : k < s.size
    · have hb := byte_lt s[k]
      by_cases hbl : isBl s[k].toNat = true
      · have hr := skE_bl s k hlt hbl
        have hcl := of_decide_eq_true hbl
        clear hbl hat
        rcases hcl with hcl | hcl | hcl | hcl
        · have e32 : ((s[k].toNat : Int) == 32) = true := by simp; omega
          clear hcl
          go_wp2
          go_round
          case rel => exact ⟨k + 1, hlt, by go_num, hr ▸ he⟩
          case measure => simp [intOf]; omega
        · have e32 : ((s[k].toNat : Int) == 32) = false := beq_int_false (by omega)
          have e9 : ((s[k].toNat : Int) == 9) = true := by simp; omega
          clear hcl
          go_wp2
          go_round
          case rel => exact ⟨k + 1, hlt, by go_num, hr ▸ he⟩
          case measure => simp [intOf]; omega
        · have e32 : ((s[k].toNat : Int) == 32) = false := beq_int_false (by omega)
          have e9 : ((s[k].toNat : Int) == 9) = false := beq_int_false (by omega)
          have e10 : ((s[k].toNat : Int) == 10) = true := by simp; omega
          clear hcl
          go_wp2
          go_round
          case rel => exact ⟨k + 1, hlt, by go_num, hr ▸ he⟩
          case measure => simp [intOf]; omega
        · have e32 : ((s[k].toNat : Int) == 32) = false := beq_int_false (by omega)
          have e9 : ((s[k].toNat : Int) == 9) = false := beq_int_false (by omega)
          have e10 : ((s[k].toNat : Int) == 10) = false := beq_int_false (by omega)
          have e13 : ((s[k].toNat : Int) == 13) = true := by simp; omega
          clear hcl
          go_wp2
          go_round
          case rel => exact ⟨k + 1, hlt, by go_num, hr ▸ he⟩
          case measure => simp [intOf]; omega
      · have hbl' : isBl s[k].toNat = false := by simpa using hbl
        have hcl := of_decide_eq_false hbl'
        have e32 : ((s[k].toNat : Int) == 32) = false := beq_int_false (by omega)
        have e9 : ((s[k].toNat : Int) == 9) = false := beq_int_false (by omega)
        have e10 : ((s[k].toNat : Int) == 10) = false := beq_int_false (by omega)
        have e13 : ((s[k].toNat : Int) == 13) = false := beq_int_false (by omega)
        have hnote := skE_note s k hlt hbl'
        have hout := skE_out s k hlt hbl'
        have hna := note_at hlt
        have hA := atB_lt s (k + 1)
        have hat' := hat k
        clear hat hcl hbl hbl'
        have hat2 : ∀ w, Calls Tryz.prog 102 #[.string s, .int .i64 ((k : Int) + 1)] w fun e w' => e = .returned (.int .u8 (atB s (k + 1))) ∧ w' = w := fun w => by simpa using hat' w
        clear hat'
        by_cases h47 : s[k].toNat = 47
        · have f47 : ((s[k].toNat : Int) == 47) = true := by simp; omega
          by_cases g47 : atB s (k + 1) = 47
          · have n1 : note s k = true := by rw [hna, h47, g47]; rfl
            obtain ⟨hr, hgt⟩ := hnote n1
            have hnl := nlE_le s k hk
            have HR : Hid (skE s (nlE s k) = skE s k0) := by show _ = _; rw [← he.out, hr]
            rw [g47] at hat2
            clear hna hout n1 hr g47 h47 hA hnote
            go_wp2_with (go_at_call 102; refine (hat2 _).mono ?_; rintro e w' ⟨rfl, rfl⟩)
            go_loop [1] (fun i => ∃ j : Nat, j ≤ s.size ∧ i = .int .i64 j ∧ k ≤ j ∧ Hid (nlE s j = nlE s k)) (fun i => s.size - (intOf i).toNat)
            case atStart => exact ⟨k, hk, rfl, Nat.le_refl _, rfl⟩
            case round =>
              obtain ⟨j, hj, rfl, hkj, hje⟩ := hrel
              by_cases hjl : j < s.size
              · have hbj := byte_lt s[j]
                by_cases h10 : s[j].toNat = 10
                · have m10 : ((s[j].toNat : Int) != 10) = false := by simp; omega
                  have hst := nlE_stop hjl h10
                  rw [hje.out] at hst
                  rw [hst] at HR hgt
                  clear hst h10 hnl hje
                  go_wp2
                  go_round
                  case rel => exact ⟨j, hj, rfl, HR⟩
                  case measure => simp [intOf]; omega
                · have m10 : ((s[j].toNat : Int) != 10) = true := by simp; omega
                  have hst := nlE_step hjl h10
                  rw [hje.out] at hst
                  have HST : Hid _ := hst
                  clear hst h10 hje
                  go_wp2
                  go_round
                  case rel => exact ⟨j + 1, hjl, by go_num, by omega, HST.out.symm⟩
                  case measure => simp [intOf]; omega
              · have hst := nlE_end (s := s) (k := j) (by omega)
                rw [hje.out] at hst
                rw [hst] at HR hgt
                clear hst hnl hje
                go_wp2
                go_round
                case rel => exact ⟨j, hj, rfl, HR⟩
                case measure => simp [intOf]; omega
          · have n1 : note s k = false := by rw [hna, h47, decide_eq_false g47]; rfl
            have hr := hout n1
            have g47' : ((atB s (k + 1) : Int) == 47) = false := beq_int_false (by omega)
            generalize atB s (k + 1) = A at *
            clear hna hout n1 hnote h47 g47
            go_wp2_with (go_at_call 102; refine (hat2 _).mono ?_; rintro e w' ⟨rfl, rfl⟩)
            go_ret
            refine ⟨?_, rfl⟩; rw [← he.out, hr]; rfl
        · have f47 : ((s[k].toNat : Int) == 47) = false := beq_int_false (by omega)
          have n1 : note s k = false := by rw [hna, decide_eq_false h47]; rfl
          have hr := hout n1
          clear hna hout n1 hnote h47 hat2 hA
          go_wp2
          go_ret
          refine ⟨?_, rfl⟩; rw [← he.out, hr]; rfl
    · have hr := skE_end s k (by omega)
      go_wp2
      go_ret
      refine ⟨?_, rfl⟩; rw [← he.out, hr]; rfl
end Go.Proofs.YtnkjgggbiokfbaaGreatDoor
namespace Go.Proofs.YtnkjgggbiokfbaaGreatDoor
open Go.RowKit
set_option maxRecDepth 100000

theorem und5 : Tryz.prog.underlying 5 = some (.int .u8) := by kernel_rfl
def ones : List UInt8 := [40, 41, 123, 125, 91, 93, 44, 59, 46, 61, 43, 45, 42, 47, 37, 38, 124, 94, 60, 33, 126]
theorem pref2 {s : ByteArray} {i : Nat} (h : i < s.size) (a b : UInt8) (hb : b.toNat ≠ 0) : [a, b].isPrefixOf (s.data.toList.drop i) = (decide (s[i].toNat = a.toNat) && decide (atB s (i + 1) = b.toNat)) := by
  rw [drop_cons s i h, Bool.eq_iff_iff]
  by_cases h1 : i + 1 < s.size
  · rw [drop_cons s (i + 1) h1, atB_in h1]
    simp only [List.isPrefixOf, Bool.and_true, Bool.and_eq_true, beq_iff_eq, decide_eq_true_eq, UInt8.toNat_inj]
    constructor <;> rintro ⟨x, y⟩ <;> exact ⟨x.symm, y.symm⟩
  · rw [drop_end s (i + 1) (by omega), atB_out h1]
    simp [List.isPrefixOf]
    intro _ e
    exact hb e.symm
theorem pref1 {s : ByteArray} {i : Nat} (h : i < s.size) (a : UInt8) : [a].isPrefixOf (s.data.toList.drop i) = decide (s[i].toNat = a.toNat) := by
  rw [drop_cons s i h, Bool.eq_iff_iff]
  simp only [List.isPrefixOf, Bool.and_true, beq_iff_eq, decide_eq_true_eq, UInt8.toNat_inj]
  exact eq_comm
theorem two_at (k : Nat) (h : k < 5) : ∃ a b : UInt8, signs.getD k [] = [a, b] ∧ b.toNat ≠ 0 := by
  match k, h with
  | 0, _ => exact ⟨60, 60, rfl, by decide⟩
  | 1, _ => exact ⟨62, 62, rfl, by decide⟩
  | 2, _ => exact ⟨61, 61, rfl, by decide⟩
  | 3, _ => exact ⟨33, 61, rfl, by decide⟩
  | 4, _ => exact ⟨60, 61, rfl, by decide⟩
theorem one_at (k : Nat) (h : k < 21) : signs.getD (5 + k) [] = [ones.getD k 0] := by
  have e : signs = signs.take 5 ++ ones.map (fun c => [c]) := by decide
  have hl : k < ones.length := h
  rw [e, List.getD, List.getElem?_append_right (by decide +revert)]
  have : 5 + k - (signs.take 5).length = k := by rw [show (signs.take 5).length = 5 from rfl]; omega
  rw [this]
  simp [List.getD, List.getElem?_eq_getElem hl]
theorem onesAt (k : Nat) (h : k < 21) : (ones.map fun c => Value.int .u8 c.toNat)[k]? = some (.int .u8 ((ones.getD k 0).toNat : Nat)) := by
  have hl : k < ones.length := h
  rw [List.getElem?_map, List.getElem?_eq_getElem hl]
  simp [List.getD, List.getElem?_eq_getElem hl]
theorem twosAt (k : Nat) (h : k < 5) : ((signs.take 5).map fun l => Value.string ⟨l.toArray⟩)[k]? = some (.string (sgB k)) := by
  have hl : k < (signs.take 5).length := h
  have hl2 : k < signs.length := by rw [show signs.length = 26 from rfl]; omega
  rw [List.getElem?_map, List.getElem?_eq_getElem hl]
  simp [sgB, List.getD, List.getElem?_eq_getElem hl2]

theorem wrap_le {n : Int} (h0 : 0 ≤ n) (h1 : n ≤ 2 ^ 41) : IntKind.i64.wrap n = n := by
  exact Go.wrap_small n h0 (by omega)

set_option maxRecDepth 100000 in
set_option maxHeartbeats 1000000 in
theorem signR_any (s : ByteArray) (i : Nat) (w : World) (hs : s.size ≤ 2 ^ 40) (hi : i < s.size) :
    Calls Tryz.prog 53 #[.string s, .int .i64 i] w fun e w' => e = .returned (.int .i64 (signL (s.data.toList.drop i))) ∧ Fr [] w w' := by
  have hat := fun w => at_any s (i + 1) w (by unfold maxLen; omega)
  have hat2 : ∀ w, Calls Tryz.prog 102 #[.string s, .int .i64 ((i : Int) + 1)] w fun e w' => e = .returned (.int .u8 (atB s (i + 1))) ∧ w' = w := fun w => by simpa using hat w
  clear hat
  have hwr : IntKind.i64.wrap ((i : Int) + 1) = (i : Int) + 1 := wrap_le (by omega) (by omega)
  have hat3 : ∀ w, Calls Tryz.prog 102 #[.string s, .int .i64 (IntKind.i64.wrap ((i : Int) + 1))] w fun e w' => e = .returned (.int .u8 (atB s (i + 1))) ∧ w' = w := by rw [hwr]; exact hat2
  clear hwr
  have hA := atB_lt s (i + 1)
  have hbi := byte_lt s[i]
  go_enter Tryz.func53, Tryz.ntmps53
  go_wp2
  generalize hw1 : w.alloc _ = w1
  have hF : Fr [] w w1 := by rw [← hw1]; exact (Fr.refl _ _).alloc _
  have hB : w1.heap[w.heap.size]? = some (.cells ((signs.take 5).map fun l => Value.string ⟨l.toArray⟩).toArray 9) := by rw [← hw1]; exact heap_alloc_new w _
  have hC : ∀ k, k < 5 → w1.cell? ⟨w.heap.size, k, none⟩ = some (.string (sgB k)) := fun k hk => by
    unfold World.cell?
    rw [hB]
    simpa using twosAt k hk
  clear hw1 hB
  generalize w.heap.size = g at hC ⊢
  go_loopg [11] 5 (fun h j wr => ∃ k : Nat, k + h = 5 ∧ j = .int .i64 k ∧ (∃ n, wr = w1.drewN n) ∧ Hid (∀ j, j < k → (signs.getD j []).isPrefixOf (s.data.toList.drop i) = false))
  case atStart => exact ⟨0, rfl, rfl, ⟨0, rfl⟩, fun j h => by omega⟩
  case round =>
    obtain ⟨k, hkg, rfl, ⟨n, hwr⟩, hno⟩ := hrel
    cases gk with
    | zero =>
      subst hwr
      have hlt : ¬ ((k : Int) < 5) := by omega
      have hk5 : k = 5 := by omega
      have kc : ∀ (C : Array Value) (m c : Nat), (convert 101 101 (.slice (some ⟨w1.heap.size, 0, none⟩) m c)).run Tryz.prog ((w1.drewN n).alloc (.cells C 5)) = .ok (.slice (some ⟨w1.heap.size, 0, none⟩) m c) ((w1.drewN n).alloc (.cells C 5 (C.size, C.size + 1))) := fun C m c => Lib.run_convert_bytes_const (P := Tryz.prog) (w1.drewN n) 101 5 C m c under106 und5
      clear hC hat2 hat3 hA
      have HK5 : Hid (k = 5) := hk5
      clear hk5 hkg
      have hF1 : Fr [] w (w1.drewN n) := hF.drewN n
      have hsz1 : (w1.drewN n).heap.size = w1.heap.size := rfl
      go_wp2
      generalize hw2 : World.alloc (w1.drewN n) _ = w2
      have hF2 : Fr [] w w2 := by rw [← hw2]; exact hF1.alloc _
      have hB2 : w2.heap[w1.heap.size]? = some (.cells (ones.map fun c => Value.int .u8 c.toNat).toArray 5 (21, 22)) := by rw [← hw2]; exact heap_alloc_new (w1.drewN n) _
      have hC2 : ∀ k, k < 21 → w2.cell? ⟨w1.heap.size, k, none⟩ = some (.int .u8 ((ones.getD k 0).toNat : Nat)) := fun k hk => by
        unfold World.cell?
        rw [hB2]
        simpa using onesAt k hk
      clear hw2 hB2 kc hsz1
      generalize w1.heap.size = g2 at hC2 ⊢
      go_loopg [34] 21 (fun h j wr => ∃ m : Nat, m + h = 21 ∧ j = .int .i64 m ∧ wr = w2 ∧ Hid (∀ j, j < 5 + m → (signs.getD j []).isPrefixOf (s.data.toList.drop i) = false))
      case atStart => exact ⟨0, rfl, rfl, rfl, fun j h => hno.out j (by have := HK5.out; omega)⟩
      case round =>
        obtain ⟨m, hmg, rfl, rfl, hno2⟩ := hrel
        cases gk with
        | zero =>
          have hlt2 : ¬ ((m : Int) < 21) := by omega
          have hz : signL (s.data.toList.drop i) = 0 := sign_none (fun j hj => hno2.out j (by omega))
          have HZ : Hid _ := hz
          clear hz hC2
          go_wp2
          go_ret
          refine ⟨?_, hF2⟩; rw [HZ.out]; rfl
        | succ h =>
          have hlt2 : (m : Int) < 21 := by omega
          have hc := hC2 m (by omega)
          have h1 := one_at m (by omega)
          have hp1 := pref1 hi (ones.getD m 0)
          rw [← h1] at hp1
          have hb1 := byte_lt (ones.getD m 0)
          have hfd : Hid ((signs.getD (5 + m) []).isPrefixOf (s.data.toList.drop i) = true → signL (s.data.toList.drop i) = 1) := fun hp => by
            rw [sign_found (k := 5 + m) (by omega) hno2.out hp, h1]; rfl
          have hnn : Hid ((signs.getD (5 + m) []).isPrefixOf (s.data.toList.drop i) = false → ∀ j, j < 5 + (m + 1) → (signs.getD j []).isPrefixOf (s.data.toList.drop i) = false) := fun hp j hj => by
            by_cases hjm : j = 5 + m
            · rw [hjm]; exact hp
            · exact hno2.out j (by omega)
          rw [hp1] at hfd hnn
          clear hC2 h1 hp1 hno2
          generalize (ones.getD m 0).toNat = q at *
          by_cases hq : s[i].toNat = q
          · have hq' : ((s[i].toNat : Int) == q) = true := by simp; omega
            have hz := hfd.out (decide_eq_true hq)
            have HZ : Hid _ := hz
            clear hz hfd hnn hq
            go_wp2
            go_ret
            refine ⟨?_, hF2⟩; rw [HZ.out]; rfl
          · have hq' : ((s[i].toNat : Int) == q) = false := beq_int_false (by omega)
            have hz := hnn.out (decide_eq_false hq)
            have HZ : Hid _ := hz
            clear hz hfd hnn hq
            go_wp2
            go_roundg h
            case measure => omega
            case rel => exact ⟨m + 1, by omega, by go_num, rfl, HZ⟩
    | succ h =>
      have hlt : (k : Int) < 5 := by omega
      have hk : wr.cell? ⟨g, k, none⟩ = some (.string (sgB k)) := by rw [hwr]; exact hC k (by omega)
      have hFw : Fr [] w wr := by rw [hwr]; exact hF.drewN n
      have HWR : Hid (wr = w1.drewN n) := hwr
      clear hC hwr
      obtain ⟨a, b, hab, hb0⟩ := two_at k (by omega)
      have hG : sgB k = ⟨#[a, b]⟩ := by unfold sgB; rw [hab]
      have hG2 : (sgB k).size = 2 := by rw [hG]; rfl
      have l0 : 0 < (sgB k).size := by omega
      have l1 : 1 < (sgB k).size := by omega
      have l1' : (1 : Int) < (sgB k).size := by omega
      have ha : (sgB k)[0]'l0 = a := by simp only [hG]; rfl
      have hb : (sgB k)[1]'l1 = b := by simp only [hG]; rfl
      rw [← ha, ← hb] at hab
      rw [← hb] at hb0
      have hp2 := pref2 hi ((sgB k)[0]'l0) ((sgB k)[1]'l1) hb0
      rw [← hab] at hp2
      have hfd : Hid ((signs.getD k []).isPrefixOf (s.data.toList.drop i) = true → signL (s.data.toList.drop i) = 2) := fun hp => by
        rw [sign_found (by omega) hno.out hp, hab]; rfl
      have hnn : Hid ((signs.getD k []).isPrefixOf (s.data.toList.drop i) = false → ∀ j, j < k + 1 → (signs.getD j []).isPrefixOf (s.data.toList.drop i) = false) := fun hp j hj => by
        by_cases hjm : j = k
        · rw [hjm]; exact hp
        · exact hno.out j (by omega)
      rw [hp2] at hfd hnn
      have ba := byte_lt ((sgB k)[0]'l0)
      have bb := byte_lt ((sgB k)[1]'l1)
      clear hG hab hno hp2 ha hb hG2
      generalize sgB k = G at *
      generalize atB s (i + 1) = A at *
      by_cases h0 : s[i].toNat = G[0].toNat
      · have h0' : ((s[i].toNat : Int) == G[0].toNat) = true := by simp; omega
        by_cases h1 : A = G[1].toNat
        · have h1' : ((A : Int) == G[1].toNat) = true := by simp; omega
          have hz := hfd.out (by rw [decide_eq_true h0, decide_eq_true h1]; rfl)
          have HZ : Hid _ := hz
          clear hz hfd hnn h0 h1
          go_wp2
          go_quiet ((go_at_call 102; first | with_reducible exact Calls.quiet_of_same (hat2 _) | with_reducible exact Calls.quiet_of_same (hat3 _)))
          go_wp2
          go_ret
          refine ⟨?_, ?_⟩
          · rw [HZ.out]; rfl
          · first | exact hFw.drewN _ | exact hFw
        · have h1' : ((A : Int) == G[1].toNat) = false := beq_int_false (by omega)
          have hz := hnn.out (by rw [decide_eq_true h0, decide_eq_false h1]; rfl)
          have HZ : Hid _ := hz
          clear hz hfd hnn h0 h1
          go_wp2
          go_quiet ((go_at_call 102; first | with_reducible exact Calls.quiet_of_same (hat2 _) | with_reducible exact Calls.quiet_of_same (hat3 _)))
          go_wp2
          go_roundg h
          case measure => omega
          case rel => exact ⟨k + 1, by omega, by go_num, (by rw [HWR.out]; exact ⟨_, World.drewN_drewN _ _ _⟩), HZ⟩
      · have h0' : ((s[i].toNat : Int) == G[0].toNat) = false := beq_int_false (by omega)
        have hz := hnn.out (by rw [decide_eq_false h0]; rfl)
        have HZ : Hid _ := hz
        clear hz hfd hnn h0
        go_wp2
        go_quiet ((go_at_call 102; first | with_reducible exact Calls.quiet_of_same (hat2 _) | with_reducible exact Calls.quiet_of_same (hat3 _)))
        go_wp2
        go_roundg h
        case measure => omega
        case rel => exact ⟨k + 1, by omega, by go_num, (by rw [HWR.out]; exact ⟨_, World.drewN_drewN _ _ _⟩), HZ⟩
end Go.Proofs.YtnkjgggbiokfbaaGreatDoor
namespace Go.Proofs.YtnkjgggbiokfbaaGreatDoor
open Go.RowKit
set_option maxRecDepth 100000

theorem own_lt {w : World} {B n : Nat} {e : TypeId} {size : Nat} {v : Value} {xs : List Value} (h : w.ownsRow B e size v n xs) : ∀ k, v.ownBlock = some k → B ≤ k ∧ k < w.heap.size := fun k hk => h.lt k hk

theorem own_set {w : World} {B n : Nat} {e : TypeId} {size : Nat} {v : Value} {xs : List Value} (h : w.ownsRow B e size v n xs) {C i : Nat} (hC : v.ownBlock ≠ some C) (u : Value) : (w.setCell ⟨C, i, none⟩ u).ownsRow B e size v n xs :=
  own_fr h (Fr.setCell (S := [C]) (Fr.refl _ _) (.inl (by simp)) u) (fun k hk => by simp; intro e; subst e; exact hC hk)
theorem tok_new' (W : World) (n : Nat) (hn : W.heap.size = n) (v0 v1 v2 v3 v4 : Value) : ∀ j u, [v0, v1, v2, v3, v4][j]? = some u → (W.alloc (.cells #[v0, v1, v2, v3, v4] 58)).cell? ((⟨n, 0, none⟩ : Addr).add j) = some u := by
  subst hn; exact tok_new W v0 v1 v2 v3 v4
theorem TB.set0 {w : World} {B : Nat} {v0 v1 v2 v3 v4 : Value} (h : TB w B v0 v1 v2 v3 v4) (u : Value) : TB (w.setCell ⟨B, 0, none⟩ u) B u v1 v2 v3 v4 := by unfold TB at *; simp [World.setCell, Array.getElem?_modify, h]
theorem TB.set1 {w : World} {B : Nat} {v0 v1 v2 v3 v4 : Value} (h : TB w B v0 v1 v2 v3 v4) (u : Value) : TB (w.setCell ⟨B, 1, none⟩ u) B v0 u v2 v3 v4 := by unfold TB at *; simp [World.setCell, Array.getElem?_modify, h]
theorem TB.set3 {w : World} {B : Nat} {v0 v1 v2 v3 v4 : Value} (h : TB w B v0 v1 v2 v3 v4) (u : Value) : TB (w.setCell ⟨B, 3, none⟩ u) B v0 v1 v2 u v4 := by unfold TB at *; simp [World.setCell, Array.getElem?_modify, h]
theorem Fr.tb {w W : World} (h : Fr [] w W) {C i : Nat} (hC : w.heap.size ≤ C) (u : Value) : Fr [] w (W.setCell ⟨C, i, none⟩ u) := h.setCell (.inr hC) u

theorem rd_name {s : ByteArray} {k : Nat} (hk : k < s.size) (h2 : kindN s[k].toNat = 2) : rd s k = .ok ⟨if wrd (s.extract k (rnE s k)) then 2 else 1, (s.extract k (rnE s k)).data.toList, k, rnE s k, 0⟩ := by
  unfold rd readL rnE
  rw [drop_getD s k hk, if_pos h2, extract_tok, wrd_mk]
theorem rd_digit {s : ByteArray} {k : Nat} (hk : k < s.size) (h3 : kindN s[k].toNat = 3) : rd s k = nmR s k (rnE s k) := by
  unfold rd readL nmR rnE
  rw [drop_getD s k hk, if_neg (by omega), if_pos h3, extract_tok, num_mk, Nat.add_sub_cancel_left]
  rfl
theorem rd_quote {s : ByteArray} {k : Nat} (hk : k < s.size) (h4 : kindN s[k].toNat = 4) : rd s k = nmR s k (min (k + 3) s.size) := by
  have hl : (s.data.toList.drop k).length = s.size - k := by rw [List.length_drop, ← Lib.size_eq]
  have e3 : (s.data.toList.drop k).take 3 = (s.data.toList.drop k).take (min (k + 3) s.size - k) := by
    by_cases h : k + 3 ≤ s.size
    · rw [show min (k + 3) s.size - k = 3 from by omega]
    · rw [show min (k + 3) s.size - k = s.size - k from by omega, List.take_of_length_le (by omega), List.take_of_length_le (by omega)]
  unfold rd readL nmR
  rw [drop_getD s k hk, if_neg (by omega), if_neg (by omega), if_pos h4, Lib.extract_eq, num_mk, e3, hl]
  rw [show k + min 3 (s.size - k) = min (k + 3) s.size from by omega]
  rfl
theorem rd_bad {s : ByteArray} {k : Nat} (hk : k < s.size) (h2 : ¬ kindN s[k].toNat = 2) (h3 : ¬ kindN s[k].toNat = 3) (h4 : ¬ kindN s[k].toNat = 4) (hz : signL (s.data.toList.drop k) = 0) : rd s k = .error 40 := by
  unfold rd readL
  rw [drop_getD s k hk, if_neg h2, if_neg h3, if_neg h4, if_pos hz]
theorem rd_sign {s : ByteArray} {k : Nat} (hk : k < s.size) (h2 : ¬ kindN s[k].toNat = 2) (h3 : ¬ kindN s[k].toNat = 3) (h4 : ¬ kindN s[k].toNat = 4) (hz : ¬ signL (s.data.toList.drop k) = 0) : rd s k = .ok ⟨3, (s.extract k (k + signL (s.data.toList.drop k))).data.toList, k, k + signL (s.data.toList.drop k), 0⟩ := by
  unfold rd readL
  rw [drop_getD s k hk, if_neg h2, if_neg h3, if_neg h4, if_neg hz, extract_tok]
theorem nmR_none {s : ByteArray} {a b : Nat} (h : num (s.extract a b) = none) : nmR s a b = .error 41 := by unfold nmR; rw [h]
theorem nmR_some {s : ByteArray} {a b n : Nat} (h : num (s.extract a b) = some n) : nmR s a b = .ok ⟨4, (s.extract a b).data.toList, a, b, n⟩ := by unfold nmR; rw [h, Lib.extract_data]
theorem kind_dig (n : Nat) : kindN n = 3 ↔ isDig n = true := by
  simp only [kindN, isBl, isLet, isDig, decide_eq_true_eq]
  repeat (first | omega | split)
theorem kind_quote (n : Nat) : kindN n = 4 ↔ n = 39 := by
  simp only [kindN, isBl, isLet, isDig, decide_eq_true_eq]
  repeat (first | omega | split)
theorem tokA_of (kd : Nat) (X : ByteArray) (a b n : Nat) : flatT [⟨kd, X.data.toList, a, b, n⟩] = [.int .i64 kd, .string X, .int .i64 a, .int .i64 b, .int .i64 n] := by
  rw [flatT_one]
  simp only [tokA]

set_option maxRecDepth 100000 in
set_option maxHeartbeats 4000000 in
theorem scanR_any (s : ByteArray) (w : World) (hs : s.size ≤ 200000) :
    Calls Tryz.prog 26 #[.string s] w fun e w' => scOut s w w' e ∧ Fr [] w w' := by
  obtain ⟨i5, hi, hz, hz1, hby⟩ := info_parts info56
  have hs40 : s.size ≤ 2 ^ 40 := by omega
  have hsM : s.size ≤ maxLen := by unfold maxLen; omega
  have hs' : (s.size : Int) ≤ 200000 := by omega
  have HS : Hid (s.size ≤ 200000) := hs
  clear hs
  go_enter Tryz.func26, Tryz.ntmps26
  go_wp2
  go_loopw [5, 6] (fun v i wr => ∃ k d, k ≤ s.size ∧ Hid (d.length ≤ k) ∧ i = .int .i64 ((k : Nat) : Int) ∧ wr.ownsRow w.heap.size 58 5 v d.length (flatT d) ∧ Fr [] w wr ∧ Hid ((d ++ (sc s k).1, (sc s k).2) = sc s 0)) (fun _ i _ => s.size - (intOf i).toNat)
  case atStart => exact ⟨0, [], Nat.zero_le _, Nat.zero_le _, rfl, World.ownsRow_nil _ _ _ _, Fr.refl _ _, rfl⟩
  case round =>
    obtain ⟨k, d, hk, hdk, rfl, hown, hF, hr⟩ := hrel
    have hkl := skE_le s k hk
    have hskip := fun w => skipR_any s k w hsM hk
    obtain ⟨av, cv, hv, _⟩ := own_slice hown
    subst hv
    by_cases hlt : skE s k < s.size
    · have HDL : Hid (d.length + 1 ≤ 200000) := by have := hdk.out; have := HS.out; show _ ≤ _; omega
      have HDK : Hid (d.length ≤ skE s k) := by have := hdk.out; show _ ≤ _; omega
      have hok : Hid (∀ t, rd s (skE s k) = .ok t → (d ++ [t] ++ (sc s t.to).1, (sc s t.to).2) = sc s 0 ∧ skE s k < t.to ∧ t.to ≤ s.size) := fun t ht => by
        obtain ⟨h1, h2, h3⟩ := sc_ok hlt ht
        refine ⟨?_, h2, h3⟩
        rw [← hr.out, h1]
        simp
      have herr : Hid (∀ e, rd s (skE s k) = .error e → sc s 0 = (d, some (skE s k, e))) := fun e he => by
        rw [← hr.out, sc_err hlt he]
        simp
      have hkK : Hid (k ≤ skE s k) := hkl.1
      generalize skE s k = K at *
      clear hr hdk hkl
      have hb := byte_lt s[K]
      have hL := fun w => letter_any s[K].toNat w hb
      have hD := fun w => digit_any s[K].toNat w hb
      by_cases h2 : kindN s[K].toNat = 2
      · have hrd := rd_name hlt h2
        rw [(kind_let _).1 h2] at hL
        have hR := fun w => run_any s K w hsM (Nat.le_of_lt hlt)
        have hE := rnE_le s K (Nat.le_of_lt hlt)
        have hWd := fun w => Word_any (s.extract K (rnE s K)) w
        obtain ⟨o1, o2, o3⟩ := hok.out _ hrd
        simp only at o1 o2 o3
        have HTK : Hid (∀ kd : Nat, flatT [⟨kd, (s.extract K (rnE s K)).data.toList, K, rnE s K, 0⟩] = [.int .i64 kd, .string (s.extract K (rnE s K)), .int .i64 K, .int .i64 (rnE s K), .int .i64 0]) := fun kd => tokA_of kd _ _ _ _
        have O1 : Hid _ := o1
        clear h2 hrd hok herr o1 hD
        go_wp2_with (first | (go_at_call 47; refine (hskip _).mono ?_; rintro e wr ⟨rfl, rfl⟩) | (go_at_call 48; refine (hL _).mono ?_; rintro e w1 ⟨rfl, rfl⟩) | (go_at_call 49; refine (hR _).mono ?_; rintro e w1 ⟨rfl, rfl⟩))
        have t0 := TB.new wr (.int .i64 1) (.string ⟨#[]⟩) (.int .i64 K) (.int .i64 (rnE s K)) (.int .i64 0)
        have F1 := hF.alloc (.cells #[.int .i64 1, .string ⟨#[]⟩, .int .i64 K, .int .i64 (rnE s K), .int .i64 0] 58)
        have ho1 := hown.alloc (.cells #[.int .i64 1, .string ⟨#[]⟩, .int .i64 K, .int .i64 (rnE s K), .int .i64 0] 58)
        have hCo : (Value.slice av d.length cv).ownBlock ≠ some wr.heap.size := fun e => by have := (own_lt hown _ e).2; omega
        have hCw : Hid (w.heap.size ≤ wr.heap.size) := hF.size
        generalize wr.alloc (.cells #[.int .i64 1, .string ⟨#[]⟩, .int .i64 K, .int .i64 (rnE s K), .int .i64 0] 58) = w1 at *
        generalize wr.heap.size = C at *
        refine (hWd w1).mono ?_
        rintro e w2 ⟨rfl, hF2⟩
        have t2 := t0.fr hF2 (by simp)
        have F2 := F1.trans hF2
        have ho2 := own_fr ho1 hF2 (fun _ _ => by simp)
        generalize wrd (s.extract K (rnE s K)) = wd at *
        clear hWd hL hR t0 F1 ho1 hF2
        have a0 := t2.c0
        have a1 := t2.c1
        have a2 := t2.c2
        have a3 := t2.c3
        have a4 := t2.c4
        have fz := t2.fz
        obtain ⟨E1, E2⟩ := hE
        cases wd
        · simp only [Bool.false_eq_true, if_false] at O1
          have t5 := t2.set1 (.string (s.extract K (rnE s K)))
          have ho5 := own_set (i := 1) ho2 hCo (.string (s.extract K (rnE s K)))
          have F5 := Fr.tb (i := 1) F2 hCw.out (.string (s.extract K (rnE s K)))
          go_wp2_with (at_builtin; refine wpList_append_own _ rfl _ _ 44 rfl w.heap.size 58 i5 (.agg #[.int .i64 0, .string ⟨#[]⟩, .int .i64 0, .int .i64 0, .int .i64 0]) 5 48 under42 hi hz hz1 hby rfl (by decide) (.slice av d.length cv) d.length (flatT d) rfl ?own ⟨w2.heap.size, 0, none⟩ 1 1 [.int .i64 1, .string (s.extract K (rnE s K)), .int .i64 K, .int .i64 (rnE s K), .int .i64 0] rfl rfl ?news (by simp [Value.oneCell']) (by have := HDL.out; have : maxLen = 9223372036854775807 := rfl; omega) (by have := HDL.out; omega) ?base ?_)
          case own => exact ho5.alloc _
          case news => exact tok_new' _ _ (by simp) _ _ _ _ _
          case base => have := F5.size; simp at this ⊢; omega
          intro v1 w3 hown1 hgrow hnil
          have FG : Fr (Value.slice av d.length cv).ownBlock.toList _ w3 := (Fr.alloc (Fr.refl _ _) (.cells #[.int .i64 1, .string (s.extract K (rnE s K)), .int .i64 K, .int .i64 (rnE s K), .int .i64 0] 58)).trans (Fr.ofGrown hgrow)
          have t6 := t5.fr FG (fun hm => hCo (by simpa using hm))
          have F6 : Fr [] w w3 := ((F5.sub (T := (Value.slice av d.length cv).ownBlock.toList) (by simp)).trans FG).sub (fun k hk => .inr (own_lt hown k (by simpa using hk)).1)
          have c6 := t6.c3
          clear FG hgrow t6 t5 ho5 F5
          go_wp2
          go_roundw
          case rel => exact ⟨rnE s K, d ++ [⟨1, (s.extract K (rnE s K)).data.toList, K, rnE s K, 0⟩], o3, (by have := HDK.out; show _ ≤ _; simp; omega), rfl, (by rw [flatT_append, HTK.out]; simpa using hown1), F6, O1⟩
          case measure => have := hkK.out; simp [intOf]; omega
        · simp only [if_true] at O1
          have t5 := (t2.set0 (.int .i64 2)).set1 (.string (s.extract K (rnE s K)))
          have ho5 := own_set (i := 1) (own_set (i := 0) ho2 hCo (.int .i64 2)) hCo (.string (s.extract K (rnE s K)))
          have F5 := Fr.tb (i := 1) (Fr.tb (i := 0) F2 hCw.out (.int .i64 2)) hCw.out (.string (s.extract K (rnE s K)))
          go_wp2_with (at_builtin; refine wpList_append_own _ rfl _ _ 44 rfl w.heap.size 58 i5 (.agg #[.int .i64 0, .string ⟨#[]⟩, .int .i64 0, .int .i64 0, .int .i64 0]) 5 48 under42 hi hz hz1 hby rfl (by decide) (.slice av d.length cv) d.length (flatT d) rfl ?own ⟨w2.heap.size, 0, none⟩ 1 1 [.int .i64 2, .string (s.extract K (rnE s K)), .int .i64 K, .int .i64 (rnE s K), .int .i64 0] rfl rfl ?news (by simp [Value.oneCell']) (by have := HDL.out; have : maxLen = 9223372036854775807 := rfl; omega) (by have := HDL.out; omega) ?base ?_)
          case own => exact ho5.alloc _
          case news => exact tok_new' _ _ (by simp) _ _ _ _ _
          case base => have := F5.size; simp at this ⊢; omega
          intro v1 w3 hown1 hgrow hnil
          have FG : Fr (Value.slice av d.length cv).ownBlock.toList _ w3 := (Fr.alloc (Fr.refl _ _) (.cells #[.int .i64 2, .string (s.extract K (rnE s K)), .int .i64 K, .int .i64 (rnE s K), .int .i64 0] 58)).trans (Fr.ofGrown hgrow)
          have t6 := t5.fr FG (fun hm => hCo (by simpa using hm))
          have F6 : Fr [] w w3 := ((F5.sub (T := (Value.slice av d.length cv).ownBlock.toList) (by simp)).trans FG).sub (fun k hk => .inr (own_lt hown k (by simpa using hk)).1)
          have c6 := t6.c3
          clear FG hgrow t6 t5 ho5 F5
          go_wp2
          go_roundw
          case rel => exact ⟨rnE s K, d ++ [⟨2, (s.extract K (rnE s K)).data.toList, K, rnE s K, 0⟩], o3, (by have := HDK.out; show _ ≤ _; simp; omega), rfl, (by rw [flatT_append, HTK.out]; simpa using hown1), F6, O1⟩
          case measure => have := hkK.out; simp [intOf]; omega
      · have hl2 : isLet s[K].toNat = false := by rw [Bool.eq_false_iff]; exact fun h => h2 ((kind_let _).2 h)
        rw [hl2] at hL
        clear hl2
        by_cases h3 : kindN s[K].toNat = 3
        · have hrd := rd_digit hlt h3
          rw [(kind_dig _).1 h3] at hD
          have hR := fun w => run_any s K w hsM (Nat.le_of_lt hlt)
          have hE := rnE_le s K (Nat.le_of_lt hlt)
          have hN := fun w => numberR_any (s.extract K (rnE s K)) w (by rw [ByteArray.size_extract]; unfold maxLen; omega)
          obtain ⟨E1, E2⟩ := hE
          clear h2 h3
          by_cases hm : (s.size : Int) < (K : Int) + 3
          · cases hnum : num (s.extract K (rnE s K)) with
            | none =>
              have hsc := herr.out _ (hrd.trans (nmR_none hnum))
              have HSC : Hid _ := hsc
              rw [hnum, nOut] at hN
              simp only [Option.getD_none, Option.isSome_none] at hN
              have F1 := hF.alloc (.cells #[.int .i64 4, .string ⟨#[]⟩, .int .i64 K, .int .i64 (rnE s K), .int .i64 0] 58)
              clear hsc hok herr hrd hnum
              go_wp2_with (first | (go_at_call 47; refine (hskip _).mono ?_; rintro e wr ⟨rfl, rfl⟩) | (go_at_call 48; refine (hL _).mono ?_; rintro e w1 ⟨rfl, rfl⟩) | (go_at_call 51; refine (hD _).mono ?_; rintro e w1 ⟨rfl, rfl⟩) | (go_at_call 49; refine (hR _).mono ?_; rintro e w1 ⟨rfl, rfl⟩) | (go_at_call 52; refine (hN _).mono ?_; rintro e w1 ⟨rfl, rfl⟩))
              refine bodyPost_ret (v := .tuple #[.slice none 0 0, .int .i64 (K : Nat), .int .i64 (41 : Nat)]) (by simp [results, Tryz.results26, go_sem]) rfl ⟨scOut_some HSC.out, F1⟩
            | some n =>
              obtain ⟨o1, o2, o3⟩ := hok.out _ (hrd.trans (nmR_some hnum))
              simp only at o1 o2 o3
              have O1 : Hid _ := o1
              rw [hnum, nOut] at hN
              simp only [Option.getD_some, Option.isSome_some] at hN
              clear o1 hok herr hrd hnum
              have t5 := TB.new wr (.int .i64 4) (.string (s.extract K (rnE s K))) (.int .i64 K) (.int .i64 (rnE s K)) (.int .i64 n)
              have F5 := hF.alloc (.cells #[.int .i64 4, .string (s.extract K (rnE s K)), .int .i64 K, .int .i64 (rnE s K), .int .i64 n] 58)
              have ho5 := hown.alloc (.cells #[.int .i64 4, .string (s.extract K (rnE s K)), .int .i64 K, .int .i64 (rnE s K), .int .i64 n] 58)
              have hCo : (Value.slice av d.length cv).ownBlock ≠ some wr.heap.size := fun e => by have := (own_lt hown _ e).2; omega
              go_wp2_with (first | (go_at_call 47; refine (hskip _).mono ?_; rintro e wr ⟨rfl, rfl⟩) | (go_at_call 48; refine (hL _).mono ?_; rintro e w1 ⟨rfl, rfl⟩) | (go_at_call 51; refine (hD _).mono ?_; rintro e w1 ⟨rfl, rfl⟩) | (go_at_call 49; refine (hR _).mono ?_; rintro e w1 ⟨rfl, rfl⟩) | (go_at_call 52; refine (hN _).mono ?_; rintro e w1 ⟨rfl, rfl⟩) | (at_builtin; refine wpList_append_own _ rfl _ _ 44 rfl w.heap.size 58 i5 (.agg #[.int .i64 0, .string ⟨#[]⟩, .int .i64 0, .int .i64 0, .int .i64 0]) 5 48 under42 hi hz hz1 hby rfl (by decide) (.slice av d.length cv) d.length (flatT d) rfl ?own ⟨wr.heap.size + 1, 0, none⟩ 1 1 [.int .i64 4, .string (s.extract K (rnE s K)), .int .i64 K, .int .i64 (rnE s K), .int .i64 n] rfl rfl ?news (by simp [Value.oneCell']) (by have := HDL.out; have : maxLen = 9223372036854775807 := rfl; omega) (by have := HDL.out; omega) ?base ?_))
              case own => exact ho5.alloc _
              case news => exact tok_new' _ _ (by simp) _ _ _ _ _
              case base => have := F5.size; simp at this ⊢; omega
              intro v1 w3 hown1 hgrow hnil
              have FG : Fr (Value.slice av d.length cv).ownBlock.toList _ w3 := (Fr.alloc (Fr.refl _ _) (.cells #[.int .i64 4, .string (s.extract K (rnE s K)), .int .i64 K, .int .i64 (rnE s K), .int .i64 n] 58)).trans (Fr.ofGrown hgrow)
              have t6 := t5.fr FG (fun hm => hCo (by simpa using hm))
              have F6 : Fr [] w w3 := ((F5.sub (T := (Value.slice av d.length cv).ownBlock.toList) (by simp)).trans FG).sub (fun k hk => .inr (own_lt hown k (by simpa using hk)).1)
              have c6 := t6.c3
              clear FG hgrow t6 t5 ho5 F5
              go_wp2
              go_roundw
              case rel => exact ⟨(rnE s K), d ++ [⟨4, (s.extract K (rnE s K)).data.toList, K, (rnE s K), n⟩], o3, (by have := HDK.out; show _ ≤ _; simp; omega), (by go_num), (by rw [flatT_append, tokA_of]; simpa using hown1), F6, O1⟩
              case measure => have := hkK.out; simp [intOf]; omega
          · have hm2 : (K : Int) + 3 ≤ s.size := by omega
            clear hm
            cases hnum : num (s.extract K (rnE s K)) with
            | none =>
              have hsc := herr.out _ (hrd.trans (nmR_none hnum))
              have HSC : Hid _ := hsc
              rw [hnum, nOut] at hN
              simp only [Option.getD_none, Option.isSome_none] at hN
              have F1 := hF.alloc (.cells #[.int .i64 4, .string ⟨#[]⟩, .int .i64 K, .int .i64 (rnE s K), .int .i64 0] 58)
              clear hsc hok herr hrd hnum
              go_wp2_with (first | (go_at_call 47; refine (hskip _).mono ?_; rintro e wr ⟨rfl, rfl⟩) | (go_at_call 48; refine (hL _).mono ?_; rintro e w1 ⟨rfl, rfl⟩) | (go_at_call 51; refine (hD _).mono ?_; rintro e w1 ⟨rfl, rfl⟩) | (go_at_call 49; refine (hR _).mono ?_; rintro e w1 ⟨rfl, rfl⟩) | (go_at_call 52; refine (hN _).mono ?_; rintro e w1 ⟨rfl, rfl⟩))
              refine bodyPost_ret (v := .tuple #[.slice none 0 0, .int .i64 (K : Nat), .int .i64 (41 : Nat)]) (by simp [results, Tryz.results26, go_sem]) rfl ⟨scOut_some HSC.out, F1⟩
            | some n =>
              obtain ⟨o1, o2, o3⟩ := hok.out _ (hrd.trans (nmR_some hnum))
              simp only at o1 o2 o3
              have O1 : Hid _ := o1
              rw [hnum, nOut] at hN
              simp only [Option.getD_some, Option.isSome_some] at hN
              clear o1 hok herr hrd hnum
              have t5 := TB.new wr (.int .i64 4) (.string (s.extract K (rnE s K))) (.int .i64 K) (.int .i64 (rnE s K)) (.int .i64 n)
              have F5 := hF.alloc (.cells #[.int .i64 4, .string (s.extract K (rnE s K)), .int .i64 K, .int .i64 (rnE s K), .int .i64 n] 58)
              have ho5 := hown.alloc (.cells #[.int .i64 4, .string (s.extract K (rnE s K)), .int .i64 K, .int .i64 (rnE s K), .int .i64 n] 58)
              have hCo : (Value.slice av d.length cv).ownBlock ≠ some wr.heap.size := fun e => by have := (own_lt hown _ e).2; omega
              go_wp2_with (first | (go_at_call 47; refine (hskip _).mono ?_; rintro e wr ⟨rfl, rfl⟩) | (go_at_call 48; refine (hL _).mono ?_; rintro e w1 ⟨rfl, rfl⟩) | (go_at_call 51; refine (hD _).mono ?_; rintro e w1 ⟨rfl, rfl⟩) | (go_at_call 49; refine (hR _).mono ?_; rintro e w1 ⟨rfl, rfl⟩) | (go_at_call 52; refine (hN _).mono ?_; rintro e w1 ⟨rfl, rfl⟩) | (at_builtin; refine wpList_append_own _ rfl _ _ 44 rfl w.heap.size 58 i5 (.agg #[.int .i64 0, .string ⟨#[]⟩, .int .i64 0, .int .i64 0, .int .i64 0]) 5 48 under42 hi hz hz1 hby rfl (by decide) (.slice av d.length cv) d.length (flatT d) rfl ?own ⟨wr.heap.size + 1, 0, none⟩ 1 1 [.int .i64 4, .string (s.extract K (rnE s K)), .int .i64 K, .int .i64 (rnE s K), .int .i64 n] rfl rfl ?news (by simp [Value.oneCell']) (by have := HDL.out; have : maxLen = 9223372036854775807 := rfl; omega) (by have := HDL.out; omega) ?base ?_))
              case own => exact ho5.alloc _
              case news => exact tok_new' _ _ (by simp) _ _ _ _ _
              case base => have := F5.size; simp at this ⊢; omega
              intro v1 w3 hown1 hgrow hnil
              have FG : Fr (Value.slice av d.length cv).ownBlock.toList _ w3 := (Fr.alloc (Fr.refl _ _) (.cells #[.int .i64 4, .string (s.extract K (rnE s K)), .int .i64 K, .int .i64 (rnE s K), .int .i64 n] 58)).trans (Fr.ofGrown hgrow)
              have t6 := t5.fr FG (fun hm => hCo (by simpa using hm))
              have F6 : Fr [] w w3 := ((F5.sub (T := (Value.slice av d.length cv).ownBlock.toList) (by simp)).trans FG).sub (fun k hk => .inr (own_lt hown k (by simpa using hk)).1)
              have c6 := t6.c3
              clear FG hgrow t6 t5 ho5 F5
              go_wp2
              go_roundw
              case rel => exact ⟨(rnE s K), d ++ [⟨4, (s.extract K (rnE s K)).data.toList, K, (rnE s K), n⟩], o3, (by have := HDK.out; show _ ≤ _; simp; omega), (by go_num), (by rw [flatT_append, tokA_of]; simpa using hown1), F6, O1⟩
              case measure => have := hkK.out; simp [intOf]; omega
        · have hd3 : isDig s[K].toNat = false := by rw [Bool.eq_false_iff]; exact fun h => h3 ((kind_dig _).2 h)
          rw [hd3] at hD
          clear hd3
          by_cases h4 : kindN s[K].toNat = 4
          · have h39 := (kind_quote _).1 h4
            have h39' : ((s[K].toNat : Int) == 39) = true := by simp; omega
            have hrd := rd_quote hlt h4
            clear h2 h3 h4 h39
            by_cases hm : K + 3 ≤ s.size
            · rw [Nat.min_eq_left hm] at hrd
              have hN := fun w => numberR_any (s.extract K (K + 3)) w (by rw [ByteArray.size_extract]; unfold maxLen; omega)
              cases hnum : num (s.extract K (K + 3)) with
              | none =>
                have hsc := herr.out _ (hrd.trans (nmR_none hnum))
                have HSC : Hid _ := hsc
                rw [hnum, nOut] at hN
                simp only [Option.getD_none, Option.isSome_none] at hN
                have F1 := hF.alloc (.cells #[.int .i64 4, .string ⟨#[]⟩, .int .i64 K, .int .i64 (K + 3), .int .i64 0] 58)
                clear hsc hok herr hrd hnum
                go_wp2_with (first | (go_at_call 47; refine (hskip _).mono ?_; rintro e wr ⟨rfl, rfl⟩) | (go_at_call 48; refine (hL _).mono ?_; rintro e w1 ⟨rfl, rfl⟩) | (go_at_call 51; refine (hD _).mono ?_; rintro e w1 ⟨rfl, rfl⟩) | (go_at_call 52; refine (hN _).mono ?_; rintro e w1 ⟨rfl, rfl⟩))
                refine bodyPost_ret (v := .tuple #[.slice none 0 0, .int .i64 (K : Nat), .int .i64 (41 : Nat)]) (by simp [results, Tryz.results26, go_sem]) rfl ⟨scOut_some HSC.out, F1⟩
              | some n =>
                obtain ⟨o1, o2, o3⟩ := hok.out _ (hrd.trans (nmR_some hnum))
                simp only at o1 o2 o3
                have O1 : Hid _ := o1
                rw [hnum, nOut] at hN
                simp only [Option.getD_some, Option.isSome_some] at hN
                clear o1 hok herr hrd hnum
                have t5 := TB.new wr (.int .i64 4) (.string (s.extract K (K + 3))) (.int .i64 K) (.int .i64 (K + 3)) (.int .i64 n)
                have F5 := hF.alloc (.cells #[.int .i64 4, .string (s.extract K (K + 3)), .int .i64 K, .int .i64 (K + 3), .int .i64 n] 58)
                have ho5 := hown.alloc (.cells #[.int .i64 4, .string (s.extract K (K + 3)), .int .i64 K, .int .i64 (K + 3), .int .i64 n] 58)
                have hCo : (Value.slice av d.length cv).ownBlock ≠ some wr.heap.size := fun e => by have := (own_lt hown _ e).2; omega
                go_wp2_with (first | (go_at_call 47; refine (hskip _).mono ?_; rintro e wr ⟨rfl, rfl⟩) | (go_at_call 48; refine (hL _).mono ?_; rintro e w1 ⟨rfl, rfl⟩) | (go_at_call 51; refine (hD _).mono ?_; rintro e w1 ⟨rfl, rfl⟩) | (go_at_call 52; refine (hN _).mono ?_; rintro e w1 ⟨rfl, rfl⟩) | (at_builtin; refine wpList_append_own _ rfl _ _ 44 rfl w.heap.size 58 i5 (.agg #[.int .i64 0, .string ⟨#[]⟩, .int .i64 0, .int .i64 0, .int .i64 0]) 5 48 under42 hi hz hz1 hby rfl (by decide) (.slice av d.length cv) d.length (flatT d) rfl ?own ⟨wr.heap.size + 1, 0, none⟩ 1 1 [.int .i64 4, .string (s.extract K (K + 3)), .int .i64 K, .int .i64 (K + 3), .int .i64 n] rfl rfl ?news (by simp [Value.oneCell']) (by have := HDL.out; have : maxLen = 9223372036854775807 := rfl; omega) (by have := HDL.out; omega) ?base ?_))
                case own => exact ho5.alloc _
                case news => exact tok_new' _ _ (by simp) _ _ _ _ _
                case base => have := F5.size; simp at this ⊢; omega
                intro v1 w3 hown1 hgrow hnil
                have FG : Fr (Value.slice av d.length cv).ownBlock.toList _ w3 := (Fr.alloc (Fr.refl _ _) (.cells #[.int .i64 4, .string (s.extract K (K + 3)), .int .i64 K, .int .i64 (K + 3), .int .i64 n] 58)).trans (Fr.ofGrown hgrow)
                have t6 := t5.fr FG (fun hm => hCo (by simpa using hm))
                have F6 : Fr [] w w3 := ((F5.sub (T := (Value.slice av d.length cv).ownBlock.toList) (by simp)).trans FG).sub (fun k hk => .inr (own_lt hown k (by simpa using hk)).1)
                have c6 := t6.c3
                clear FG hgrow t6 t5 ho5 F5
                go_wp2
                go_roundw
                case rel => exact ⟨(K + 3), d ++ [⟨4, (s.extract K (K + 3)).data.toList, K, (K + 3), n⟩], o3, (by have := HDK.out; show _ ≤ _; simp; omega), (by go_num), (by rw [flatT_append, tokA_of]; simpa using hown1), F6, O1⟩
                case measure => have := hkK.out; simp [intOf]; omega
            · rw [Nat.min_eq_right (by omega)] at hrd
              have hm' : (s.size : Int) < (K : Int) + 3 := by omega
              clear hm
              have hN := fun w => numberR_any (s.extract K s.size) w (by rw [ByteArray.size_extract]; unfold maxLen; omega)
              cases hnum : num (s.extract K s.size) with
              | none =>
                have hsc := herr.out _ (hrd.trans (nmR_none hnum))
                have HSC : Hid _ := hsc
                rw [hnum, nOut] at hN
                simp only [Option.getD_none, Option.isSome_none] at hN
                have F1 := hF.alloc (.cells #[.int .i64 4, .string ⟨#[]⟩, .int .i64 K, .int .i64 s.size, .int .i64 0] 58)
                clear hsc hok herr hrd hnum
                go_wp2_with (first | (go_at_call 47; refine (hskip _).mono ?_; rintro e wr ⟨rfl, rfl⟩) | (go_at_call 48; refine (hL _).mono ?_; rintro e w1 ⟨rfl, rfl⟩) | (go_at_call 51; refine (hD _).mono ?_; rintro e w1 ⟨rfl, rfl⟩) | (go_at_call 52; refine (hN _).mono ?_; rintro e w1 ⟨rfl, rfl⟩))
                refine bodyPost_ret (v := .tuple #[.slice none 0 0, .int .i64 (K : Nat), .int .i64 (41 : Nat)]) (by simp [results, Tryz.results26, go_sem]) rfl ⟨scOut_some HSC.out, F1⟩
              | some n =>
                obtain ⟨o1, o2, o3⟩ := hok.out _ (hrd.trans (nmR_some hnum))
                simp only at o1 o2 o3
                have O1 : Hid _ := o1
                rw [hnum, nOut] at hN
                simp only [Option.getD_some, Option.isSome_some] at hN
                clear o1 hok herr hrd hnum
                have t5 := TB.new wr (.int .i64 4) (.string (s.extract K s.size)) (.int .i64 K) (.int .i64 s.size) (.int .i64 n)
                have F5 := hF.alloc (.cells #[.int .i64 4, .string (s.extract K s.size), .int .i64 K, .int .i64 s.size, .int .i64 n] 58)
                have ho5 := hown.alloc (.cells #[.int .i64 4, .string (s.extract K s.size), .int .i64 K, .int .i64 s.size, .int .i64 n] 58)
                have hCo : (Value.slice av d.length cv).ownBlock ≠ some wr.heap.size := fun e => by have := (own_lt hown _ e).2; omega
                go_wp2_with (first | (go_at_call 47; refine (hskip _).mono ?_; rintro e wr ⟨rfl, rfl⟩) | (go_at_call 48; refine (hL _).mono ?_; rintro e w1 ⟨rfl, rfl⟩) | (go_at_call 51; refine (hD _).mono ?_; rintro e w1 ⟨rfl, rfl⟩) | (go_at_call 52; refine (hN _).mono ?_; rintro e w1 ⟨rfl, rfl⟩) | (at_builtin; refine wpList_append_own _ rfl _ _ 44 rfl w.heap.size 58 i5 (.agg #[.int .i64 0, .string ⟨#[]⟩, .int .i64 0, .int .i64 0, .int .i64 0]) 5 48 under42 hi hz hz1 hby rfl (by decide) (.slice av d.length cv) d.length (flatT d) rfl ?own ⟨wr.heap.size + 1, 0, none⟩ 1 1 [.int .i64 4, .string (s.extract K s.size), .int .i64 K, .int .i64 s.size, .int .i64 n] rfl rfl ?news (by simp [Value.oneCell']) (by have := HDL.out; have : maxLen = 9223372036854775807 := rfl; omega) (by have := HDL.out; omega) ?base ?_))
                case own => exact ho5.alloc _
                case news => exact tok_new' _ _ (by simp) _ _ _ _ _
                case base => have := F5.size; simp at this ⊢; omega
                intro v1 w3 hown1 hgrow hnil
                have FG : Fr (Value.slice av d.length cv).ownBlock.toList _ w3 := (Fr.alloc (Fr.refl _ _) (.cells #[.int .i64 4, .string (s.extract K s.size), .int .i64 K, .int .i64 s.size, .int .i64 n] 58)).trans (Fr.ofGrown hgrow)
                have t6 := t5.fr FG (fun hm => hCo (by simpa using hm))
                have F6 : Fr [] w w3 := ((F5.sub (T := (Value.slice av d.length cv).ownBlock.toList) (by simp)).trans FG).sub (fun k hk => .inr (own_lt hown k (by simpa using hk)).1)
                have c6 := t6.c3
                clear FG hgrow t6 t5 ho5 F5
                go_wp2
                go_roundw
                case rel => exact ⟨s.size, d ++ [⟨4, (s.extract K s.size).data.toList, K, s.size, n⟩], o3, (by have := HDK.out; show _ ≤ _; simp; omega), (by go_num), (by rw [flatT_append, tokA_of]; simpa using hown1), F6, O1⟩
                case measure => have := hkK.out; simp [intOf]; omega
          · have h39' : ((s[K].toNat : Int) == 39) = false := beq_int_false (by intro h; exact h4 ((kind_quote _).2 (by omega)))
            have hSg := fun w => signR_any s K w hs40 hlt
            have hrb := rd_bad hlt h2 h3 h4
            have hrs := rd_sign hlt h2 h3 h4
            have hLl : signL (s.data.toList.drop K) ≤ s.size - K := by
              have := signL_le (s.data.toList.drop K)
              rw [List.length_drop, ← Lib.size_eq] at this
              exact this
            clear h2 h3 h4
            generalize signL (s.data.toList.drop K) = L at *
            have HLl : Hid (L ≤ s.size - K) := hLl
            clear hLl
            have hrb' : Hid (L = 0 → rd s K = .error 40) := hrb
            have hrs' : Hid (¬ L = 0 → rd s K = .ok ⟨3, (s.extract K (K + L)).data.toList, K, K + L, 0⟩) := hrs
            clear hrb hrs
            go_wp2_with (first | (go_at_call 47; refine (hskip _).mono ?_; rintro e wr ⟨rfl, rfl⟩) | (go_at_call 48; refine (hL _).mono ?_; rintro e w1 ⟨rfl, rfl⟩) | (go_at_call 51; refine (hD _).mono ?_; rintro e w1 ⟨rfl, rfl⟩))
            have t0 := TB.new wr (.int .i64 3) (.string ⟨#[]⟩) (.int .i64 K) (.int .i64 K) (.int .i64 0)
            have F1 := hF.alloc (.cells #[.int .i64 3, .string ⟨#[]⟩, .int .i64 K, .int .i64 K, .int .i64 0] 58)
            have ho1 := hown.alloc (.cells #[.int .i64 3, .string ⟨#[]⟩, .int .i64 K, .int .i64 K, .int .i64 0] 58)
            have hCo : (Value.slice av d.length cv).ownBlock ≠ some wr.heap.size := fun e => by have := (own_lt hown _ e).2; omega
            have hCw : Hid (w.heap.size ≤ wr.heap.size) := hF.size
            generalize wr.alloc (.cells #[.int .i64 3, .string ⟨#[]⟩, .int .i64 K, .int .i64 K, .int .i64 0] 58) = w1 at *
            generalize wr.heap.size = C at *
            refine (hSg w1).mono ?_
            rintro e w2 ⟨rfl, hF2⟩
            have t2 := t0.fr hF2 (by simp)
            have F2 := F1.trans hF2
            have ho2 := own_fr ho1 hF2 (fun _ _ => by simp)
            clear hSg hL hD t0 F1 ho1 hF2
            have a0 := t2.c0
            have a1 := t2.c1
            have a2 := t2.c2
            have a3 := t2.c3
            have a4 := t2.c4
            have fz := t2.fz
            by_cases hL0 : L = 0
            · have hsc := herr.out _ (hrb'.out hL0)
              have HSC : Hid _ := hsc
              subst hL0
              have F5 := Fr.tb (i := 3) F2 hCw.out (.int .i64 K)
              clear hsc hok herr hrb' hrs'
              go_wp2
              refine bodyPost_ret (v := .tuple #[.slice none 0 0, .int .i64 (K : Nat), .int .i64 (40 : Nat)]) (by simp [results, Tryz.results26, go_sem]) rfl ⟨scOut_some HSC.out, F5⟩
            · obtain ⟨o1, o2, o3⟩ := hok.out _ (hrs'.out hL0)
              simp only at o1 o2 o3
              have O1 : Hid _ := o1
              have hne : (((K : Int) + L) == K) = false := beq_int_false (by omega)
              have hLL : (L : Int) ≤ s.size - K := by have := HLl.out; omega
              clear o1 hok herr hrb' hrs'
              have t5 := (t2.set3 (.int .i64 ((K : Int) + L))).set1 (.string (s.extract K (K + L)))
              have ho5 := own_set (i := 1) (own_set (i := 3) ho2 hCo (.int .i64 ((K : Int) + L))) hCo (.string (s.extract K (K + L)))
              have F5 := Fr.tb (i := 1) (Fr.tb (i := 3) F2 hCw.out (.int .i64 ((K : Int) + L))) hCw.out (.string (s.extract K (K + L)))
              go_wp2_with (at_builtin; refine wpList_append_own _ rfl _ _ 44 rfl w.heap.size 58 i5 (.agg #[.int .i64 0, .string ⟨#[]⟩, .int .i64 0, .int .i64 0, .int .i64 0]) 5 48 under42 hi hz hz1 hby rfl (by decide) (.slice av d.length cv) d.length (flatT d) rfl ?own ⟨w2.heap.size, 0, none⟩ 1 1 [.int .i64 3, .string (s.extract K (K + L)), .int .i64 K, .int .i64 ((K : Int) + L), .int .i64 0] rfl rfl ?news (by simp [Value.oneCell']) (by have := HDL.out; have : maxLen = 9223372036854775807 := rfl; omega) (by have := HDL.out; omega) ?base ?_)
              case own => exact ho5.alloc _
              case news => exact tok_new' _ _ (by simp) _ _ _ _ _
              case base => have := F5.size; simp at this ⊢; omega
              intro v1 w3 hown1 hgrow hnil
              have FG : Fr (Value.slice av d.length cv).ownBlock.toList _ w3 := (Fr.alloc (Fr.refl _ _) (.cells #[.int .i64 3, .string (s.extract K (K + L)), .int .i64 K, .int .i64 ((K : Int) + L), .int .i64 0] 58)).trans (Fr.ofGrown hgrow)
              have t6 := t5.fr FG (fun hm => hCo (by simpa using hm))
              have F6 : Fr [] w w3 := ((F5.sub (T := (Value.slice av d.length cv).ownBlock.toList) (by simp)).trans FG).sub (fun k hk => .inr (own_lt hown k (by simpa using hk)).1)
              have c6 := t6.c3
              clear FG hgrow t6 t5 ho5 F5
              go_wp2
              go_roundw
              case rel => exact ⟨K + L, d ++ [⟨3, (s.extract K (K + L)).data.toList, K, K + L, 0⟩], o3, (by have := HDK.out; show _ ≤ _; simp; omega), (by go_num), (by rw [flatT_append, tokA_of]; simpa using hown1), F6, O1⟩
              case measure => have := hkK.out; simp [intOf]; omega
    · have hsc := sc_end hk (by omega)
      have hKs : skE s k = s.size := by omega
      have HSC : Hid (sc s 0 = (d, none)) := by
        show _ = _
        rw [← hr.out, hsc]
        simp
      rw [hKs] at hskip
      have HDL : Hid (d.length ≤ 200000) := Nat.le_trans hdk.out (Nat.le_trans hk HS.out)
      have hlt' : ¬ (s.size : Int) < s.size := by omega
      clear hsc hr hlt hKs hkl hdk
      go_wp2_with (first | (go_at_call 47; refine (hskip _).mono ?_; rintro e wr ⟨rfl, rfl⟩) | (at_builtin; refine wpList_append_own _ rfl _ _ 44 rfl w.heap.size 58 i5 (.agg #[.int .i64 0, .string ⟨#[]⟩, .int .i64 0, .int .i64 0, .int .i64 0]) 5 48 under42 hi hz hz1 hby rfl (by decide) (.slice av d.length cv) d.length (flatT d) rfl ((hown.alloc _).alloc _) ⟨wr.heap.size + 1, 0, none⟩ 1 1 [.int .i64 0, .string ⟨#[]⟩, .int .i64 s.size, .int .i64 s.size, .int .i64 0] rfl rfl ?news (by simp [Value.oneCell']) (by have := HDL.out; have : maxLen = 9223372036854775807 := rfl; omega) (by have := HDL.out; omega) (by have := hF.size; simp; omega) ?_))
      case news => exact tok_new' (wr.alloc _) _ (by simp) _ _ _ _ _
      intro v1 w3 hown1 hgrow hnil
      have F3 : Fr [] w w3 := ((((hF.alloc _).alloc _).sub (T := (Value.slice av d.length cv).ownBlock.toList) (by simp)).trans (Fr.ofGrown hgrow)).sub (fun k hk => .inr (own_lt hown k (by simpa using hk)).1)
      clear hgrow
      go_wp2
      refine bodyPost_ret (v := .tuple #[v1, .int .i64 0, .int .i64 0]) (by simp [results, Tryz.results26, go_sem]) rfl ⟨scOut_none HSC.out ?_, F3⟩
      rw [flatT_append, flatT_one]
      exact hown1
end Go.Proofs.YtnkjgggbiokfbaaGreatDoor
namespace Go.Proofs.YtnkjgggbiokfbaaGreatDoor
open Go.RowKit
set_option linter.unusedVariables false
set_option linter.unusedSimpArgs false

open Go.Shelf in
def cI (l : List Nat) : List Int := l.map (fun (n : Nat) => (n : Int))
def nd5 (m : MN) : T5.Nd := ⟨m.x.kind, ⟨m.x.text.toArray⟩, m.a, m.c, cI m.x.kids, m.x.pl⟩
def nx5 (x : PN) : T5.Nd := ⟨x.kind, ⟨x.text.toArray⟩, none, 0, cI x.kids, x.pl⟩
theorem kidD_eq (D : List Nat) (n : Nat) : ∀ (ks : List Int) (d : Nat), T5.kidD D n ks d = kidD D n ks d
  | [], d => rfl
  | k :: ks, d => by simp only [T5.kidD, kidD, kidD_eq D n ks]
theorem depths_eq {L5 : List T5.Nd} {L : List Nd} (h : L5.map T5.Nd.ks = L.map Nd.ks) : ∀ n, T5.depths L5 n = depths L n
  | 0 => rfl
  | n + 1 => by
    have e : (L5[n]?).map T5.Nd.ks = (L[n]?).map Nd.ks := by rw [← List.getElem?_map, h, List.getElem?_map]
    simp only [T5.depths, depths, depths_eq h n]
    cases h5 : L5[n]? with
    | none =>
      rw [h5] at e
      cases hL : L[n]? with
      | none => rfl
      | some y => rw [hL] at e; simp at e
    | some x =>
      rw [h5] at e
      cases hL : L[n]? with
      | none => rw [hL] at e; simp at e
      | some y => rw [hL] at e; simp at e; simp [e, kidD_eq]
theorem deep5 {L : List MN} {ms : List PN} (h : L.map MN.x = ms) : T5.deepL (L.map nd5) = deepP ms := by
  rw [← deepL_nd h]
  unfold T5.deepL deepL
  have e : (L.map nd5).map T5.Nd.ks = (L.map ndM).map Nd.ks := by simp [nd5, ndM, cI, Function.comp_def]
  rw [depths_eq e]
  simp
/-- The nodes as they lie, as the checks read them. -/
theorem nodes5 {w : World} {B : Nat} {L : List MN} {a : Option Addr} {c : Nat} {F : List Nat} (ho : w.ownsRow B 37 4 (.slice a L.length c) L.length (flatM L)) (hk : ∀ m ∈ L, KRow w F m) (hF : ∀ j ∈ F, j < w.heap.size) (hT : ∀ m ∈ L, m.x.text.length ≤ 200020) : T5.NAt w.heap.size w a (L.map nd5) := by
  intro i x hx
  rw [List.getElem?_map] at hx
  obtain ⟨m, hm, rfl⟩ := Option.map_eq_some_iff.1 hx
  have hmem := List.mem_of_getElem? hm
  obtain ⟨k1, k2, k3⟩ := hk m hmem
  have ht := hT m hmem
  rcases ho.2 with ⟨e1, e2⟩ | ⟨g, cap, cur, e1, -⟩
  · rw [List.length_eq_zero_iff] at e2
    subst e2
    simp at hm
  · cases e1
    have hb := (ho.lt g rfl)
    have hc : ∀ j, j < 4 → ∀ u, m.cells[j]? = some u → w.cell? ⟨g, i * 4 + j, none⟩ = some u := fun j hj u hu => by
      have := ho.cells (g := g) rfl (i * 4 + j) u (by rw [flatM_get hm j hj]; exact hu)
      rw [Addr.add_lit, Nat.zero_add] at this
      exact this
    refine ⟨g, 0, rfl, hb.2, ?_, ?_, ?_, ?_, ?_, ?_, ?_, ?_, ?_⟩
    · simpa [nd5] using hc 0 (by omega) _ rfl
    · simpa [nd5] using hc 1 (by omega) _ rfl
    · simpa [nd5, cI] using hc 2 (by omega) _ rfl
    · simpa [nd5] using hc 3 (by omega) _ rfl
    · intro j k hj
      simp only [nd5, cI, List.getElem?_map] at hj
      obtain ⟨n, hn, rfl⟩ := Option.map_eq_some_iff.1 hj
      obtain ⟨b, o, cc, z, q1, q2, q3, q4⟩ := k3 j n hn
      exact ⟨b, o, q1, hF b q2, at_cells q3 _ q4⟩
    · simp only [nd5]
      rw [Lib.size_eq]
      simp only
      unfold maxLen
      omega
    · simpa [nd5, cI] using Nat.le_trans k1.1 k1.2
    · simpa [nd5, cI] using k1.1
    · exact k2
theorem fld0 (a b c d : Int) (s : ByteArray) (W : World) : (Instr.field 58 (.agg #[.int .i64 a, .string s, .int .i64 b, .int .i64 c, .int .i64 d]) 0).run Tryz.prog W = .ok (.int .i64 a) W := by kernel_rfl
/-- A reader that begins. -/
theorem RS.begin {w : World} {ts : List Tok} {B tg tc : Nat} (hR : TRow w tg ts) (hb : B ≤ tg) (hB : 7 ≤ B) (hw : B ≤ w.heap.size) (hl : ts.length ≤ 200001) (hc : ts.length ≤ tc) (hp : 0 < ts.length) :
    RS ts B w.heap.size [w.heap.size, tg] 0 [] (w.alloc (.cells #[.slice (some ⟨tg, 0, none⟩) ts.length tc, .int .i64 0, .slice none 0 0, .bool false, .int .i64 0] 56)) := by
  have f : Fr [] w (w.alloc (.cells #[.slice (some ⟨tg, 0, none⟩) ts.length tc, .int .i64 0, .slice none 0 0, .bool false, .int .i64 0] 56)) := (Fr.refl _ _).alloc _
  refine ⟨⟨tg, tc, .slice none 0 0, [], heap_alloc_new w _, hc, by simp, hR.fr f (by simp), rfl, World.ownsRow_nil _ _ _ _, fun k h => by simp [Value.ownBlock] at h, by simp⟩, by simp, ?_, hB, hl, hp⟩
  intro j hj
  have := hR.lt
  simp only [List.mem_cons, List.not_mem_nil, or_false] at hj
  rcases hj with rfl | rfl
  · simp; omega
  · simp; omega

theorem RB.cells5 {ts : List Tok} {rb p : Nat} {w : World} (h : RB ts rb p w) : w.cell? ⟨rb, 3, none⟩ = some (.bool true) ∧ w.cell? ⟨rb, 4, none⟩ = some (.int .i64 (p : Nat)) := by
  obtain ⟨tg, tc, i, nv, h1, _⟩ := h.ex
  exact ⟨h1.cells.2.2.2.1, h1.cells.2.2.2.2.1⟩
theorem Fr.trans' {S : List Nat} {a b c : World} (h : Fr [] a b) (k : Fr S b c) (hS : ∀ i ∈ S, a.heap.size ≤ i) : Fr [] a c := ((h.sub (T := S) (by simp)).trans k).sub (fun i hi => .inr (hS i hi))
set_option maxRecDepth 100000 in
set_option maxHeartbeats 4000000 in
theorem prgR_any (s : ByteArray) (w : World) (hs : s.size ≤ 200000) (h7 : 7 ≤ w.heap.size) :
    Calls Tryz.prog 11 #[.string s] w fun e w' => PrgOut s w w' e ∧ Fr [] w w' := by
  obtain ⟨i3, hi3, hz, hz1, hby⟩ := info_parts info3
  have CS := scanR_any s w hs
  unfold scOut at CS
  rcases hsc : sc s 0 with ⟨ts, _ | ⟨p, c⟩⟩
  rotate_left
  · rw [hsc] at CS
    have HQ : Hid (prgL s = .error (p, c)) := by unfold Hid prgL; rw [hsc]
    have hc : ¬ (c : Int) = 0 := by
      have h1 := scanL_err (s.size + 1) 0 (s.data.toList.drop 0) (p, c) (show (sc s 0).2 = _ by rw [hsc])
      simp only at h1
      omega
    replace CS : Calls Tryz.prog 26 #[.string s] w fun e w' => e = .returned (.tuple #[.slice none 0 0, .int .i64 (p : Nat), .int .i64 (c : Nat)]) ∧ Fr [] w w' := CS
    clear hsc
    go_enter Tryz.func11, Tryz.ntmps11
    go_wp2_with (go_at_call 26; refine CS.mono ?_)
    rintro e w1 ⟨rfl, f1⟩
    go_wp2
    exact bodyPost_ret (results_tmp3 rfl _ _ _) rfl ⟨PrgOut.err HQ.out, f1⟩
  rw [hsc] at CS
  have HT : Hid (Toks (withEnd s ts) ∧ ts.length ≤ s.size) := toks_of (by rw [hsc])
  have HKT : Hid (KT (withEnd s ts)) := kt_of (by rw [hsc])
  have HKB : Hid (KB (withEnd s ts)) := kb_of (by rw [hsc])
  have HLE : Hid (∀ i, i < (withEnd s ts).length → TLen 200020 (tk (withEnd s ts) i)) := fun i hi => by have := (toks_good (s := s) (ts := ts) (by rw [hsc]) i hi).2; exact ⟨Nat.le_trans this.1 (by omega), Nat.le_trans this.2 (by omega)⟩
  have Hlen : Hid ((withEnd s ts).length = ts.length + 1) := by unfold Hid; simp [withEnd]
  replace CS : Calls Tryz.prog 26 #[.string s] w fun e w' => (∃ v, e = .returned (.tuple #[v, .int .i64 0, .int .i64 0]) ∧ w'.ownsRow w.heap.size 58 5 v (ts.length + 1) (flatT (withEnd s ts))) ∧ Fr [] w w' := CS
  have HPL : Hid (prgL s = afterL (withEnd s ts)) := prgL_after hsc rfl
  clear hsc
  generalize withEnd s ts = us at *
  have Hul : Hid (us.length ≤ 200001) := by unfold Hid; have := HT.out.2; have := Hlen.out; omega
  clear hs
  go_enter Tryz.func11, Tryz.ntmps11
  go_wp2_with (go_at_call 26; refine CS.mono ?_)
  rintro e w1 ⟨⟨v, rfl, hrow⟩, f1⟩
  rw [← Hlen.out] at hrow
  have hul := Hul.out
  obtain ⟨g, tc, rfl, hg, htc, hR⟩ := row_of hrow (by have := Hlen.out; omega)
  have CT := nest_any (tc := tc) hR hul htc HKB.out
  clear CS hrow
  cases hto : tooO us 0 with
  | some p =>
    have HQ : Hid (prgL s = .error (p, 51)) := HPL.out.trans (by unfold afterL; rw [hto])
    rw [hto] at CT
    simp only [NestV] at CT
    have hp0 : (0 : Int) ≤ (p : Int) := by omega
    go_wp2_with (go_at_call 27; refine CT.mono ?_)
    rintro e w2 ⟨rfl, f2⟩
    go_wp2
    exact bodyPost_ret (results_tmp3 rfl _ _ _) rfl ⟨PrgOut.err HQ.out, f1.trans f2⟩
  | none =>
    have HP2 : Hid (prgL s = match fullP us with | .error k => .error ((tk us k).frm, 60) | .ok (_, _, ms) => if 50000 < ms.length then .error (0, 2) else if 200 < deepP ms then .error (0, 51) else .ok ms) := HPL.out.trans (by unfold afterL; rw [hto]; rcases fullP us with k | ⟨v, j, ms⟩ <;> rfl)
    rw [hto] at CT
    simp only [NestV] at CT
    go_wp2_with (go_at_call 27; refine CT.mono ?_)
    rintro e w2 ⟨rfl, f2⟩
    have f02 := f1.trans f2
    have hR2 := hR.fr f2 (by simp)
    have hb0 := RS.begin (B := w.heap.size) (tc := tc) hR2 hg h7 f02.size hul htc HT.out.1.pos
    have HGW : Hid (w.heap.size ≤ g) := hg
    have gW : Fr [] w2 (w2.alloc (.cells #[.slice (some ⟨g, 0, none⟩) us.length tc, .int .i64 0, .slice none 0 0, .bool false, .int .i64 0] 56)) := (Fr.refl _ _).alloc _
    have HW3 : Hid (Fr [] w (w2.alloc (.cells #[.slice (some ⟨g, 0, none⟩) us.length tc, .int .i64 0, .slice none 0 0, .bool false, .int .i64 0] 56))) := f02.trans gW
    have HRB : Hid (w.heap.size ≤ w2.heap.size) := f02.size
    have HM : Hid (∀ v j ms, fullP us = .ok (v, j, ms) → j < us.length ∧ ms.length ≤ 2 * j + 1 ∧ ∀ x ∈ ms, x.text.length ≤ 200020) := by
      intro v j ms h
      have hh := (fullP_eq HT.out.1).trans (congrArg some h)
      have e := run_ok HT.out.1 (nt := .prog) (i := 0) (ns := []) (g := 40 * us.length + 29) HT.out.1.pos trivial hh
      have e1 := e.2.1
      have e2 := e.2.2.2.1
      simp only [slack, List.length_nil] at e2
      refine ⟨e1, by omega, fun x hx => (keep_len (M := 200020) HT.out.1 (by omega) HLE.out _ .prog _ _ (fun t h => by cases h) v j ms hh (by simp) x hx).1⟩
    obtain ⟨r, HR⟩ : ∃ r, Hid (fullP us = r) := ⟨_, rfl⟩
    have HP : Hid (P us (40 * us.length + 28) (.progL []) 0 [] = some r) := by
      have := fullP_eq HT.out.1
      rw [HR.out] at this
      have e : P us (40 * us.length + 29) .prog 0 [] = P us (40 * us.length + 28) (.progL []) 0 [] := by rw [P]
      rw [← e]
      exact this
    rw [HR.out] at HP2 HM
    have HH : Hid (∀ f, RHyp us w.heap.size w2.heap.size f) := rhyp_all HT.out.1 HKT.out
    obtain ⟨rb, HRBE⟩ : ∃ rb, Hid (w2.heap.size = rb) := ⟨_, rfl⟩
    clear CT hto HPL hR hR2 hg htc
    go_wp2
    rw [HRBE.out] at hb0 HH HRB
    rw [HRBE.out]
    generalize hW3 : w2.alloc (.cells #[.slice (some ⟨g, 0, none⟩) us.length tc, .int .i64 0, .slice none 0 0, .bool false, .int .i64 0] 56) = w3 at *
    have hT := HT.out.1
    have HTL : Hid (us.length ≤ 200001) := Hul
    go_loopw [10] (fun kv wr => (∃ g' acc i' ns' F', RS us w.heap.size rb F' i' ns' wr ∧ KR w.heap.size w3 F' wr kv acc ∧ Tr [rb, g] w3 F' wr ∧ Hid (ns'.length ≤ 2 * i' ∧ acc.length ≤ i') ∧ Hid (P us g' (.progL acc) i' ns' = some r)) ∨ (∃ k, r = .error k ∧ RB us rb (tk us k).frm wr ∧ Fr [rb, g] w3 wr)) (fun _ wr => measR us rb wr)
    case atStart => exact .inl ⟨_, [], 0, [], _, hb0, KR.nil _ _ _ _, Tr.refl _ _, by unfold Hid; simp, HP⟩
    case round =>
      have HSUB : Hid (∀ k ∈ [rb, g], w.heap.size ≤ k) := by unfold Hid; have := HRB.out; have := HGW.out; simp; omega
      have HBW : Hid (w.heap.size ≤ w3.heap.size) := HW3.out.size
      clear hb0 HP gW f02
      rcases hrel with ⟨g', acc, p, ms, F1, hps, hkr, htr, hbd, hPP⟩ | ⟨k, rfl, hb, fe⟩
      rotate_left
      · have c3 := hb.cells
        have HQ : Hid (prgL s = .error ((tk us k).frm, 60)) := HP2.out
        go_wp2_with fail
        refine (rnode_bad hb _ _ _ _).mono ?_
        rintro e w5 ⟨rfl, f5⟩
        have hb5 := hb.fr f5
        have fe5 : Fr [] w w5 := (HW3.out.trans' ((fe.trans (f5.sub (by simp)))) HSUB.out)
        have FZ : ∀ w', Fr [] w5 w' → RB us rb (tk us k).frm w' := fun w' f => hb5.fr f
        obtain ⟨d3, d4⟩ := hb5.cells5
        have r4 : ∀ w', Fr [] w5 w' → w'.cell? ⟨rb, 4, none⟩ = some (.int .i64 ((tk us k).frm : Nat)) := fun w' f => f.cell1 d4 (by simp)
        have f55 : Fr [] w5 w5 := Fr.refl _ _
        clear c3 FZ
        go_wp2
        go_region_held3 (fun w' => Fr [] w5 w') (with_reducible (first | assumption | (refine Fr.drew ?_; assumption))) (fail)
        go_wp2
        exact bodyPost_ret (results_tmp3 rfl _ _ _) rfl ⟨PrgOut.err HQ.out, fe5.drew⟩
      obtain _ | g' := g'
      · exact absurd hPP.out (by simp [P])
      have hpi := hps.ti
      have HPI : Hid (p < us.length ∧ measR us rb wr = us.length - p + 1) := ⟨hpi, hps.meas⟩
      obtain ⟨ka, kc, hkv, _⟩ := own_slice hkr.on
      subst hkv
      have o0 := hkr.on
      have ny0 := hkr.ni
      have z0 : Hid (∀ k, (Value.slice ka acc.length kc).ownBlock = some k → w3.heap.size ≤ k) := hkr.lo
      obtain ⟨_, _, _, c3w, _⟩ := hps.cells
      clear hkr
      have hP := hPP.out
      simp only [P] at hP
      clear hPP
      have C5 := hps.now
      unfold tokA at C5
      by_cases e1 : nx us p = []
      · rw [if_pos e1] at hP
        have k0 := (HKT.out.stop hpi).1 e1
        have hk : ((((tk us p).kind : Nat) : Int) != 0) = false := by simp; omega
        have HRR : Hid (r = .ok ([ms.length], p, ms ++ [⟨1, [], acc, 0⟩])) := by cases hP; rfl
        clear hP e1 k0
        go_wp2_with fail
        refine C5.mono ?_
        rintro e w5 ⟨rfl, f5⟩
        have fl5 := fld0 ((tk us p).kind : Nat) ((tk us p).frm : Nat) ((tk us p).to : Nat) ((tk us p).n : Nat) ⟨(tk us p).text.toArray⟩ w5
        have h5 := hps.fr f5 (by simp)
        have o5 := own_fr o0 f5 (by simp)
        have t5 := htr.trans (Tr.of0 f5)
        have KV0 := ON.kv o5
        have LO : ∀ k ∈ (Value.slice ka acc.length kc).ownBlock.toList, w3.heap.size ≤ k := fun k hk => z0.out k (by simpa using hk)
        have CL := rnode_any h5 KV0 1 [] 0 (by have := hbd.out; have := HTL.out; have := hpi; omega)
        clear C5 c3w
        go_wp2_with fail
        refine CL.mono ?_
        rintro e wz ⟨rfl, Fz, hz', fz, sz⟩
        have tz : Tr [rb, g] w3 Fz wz := lay_tr t5 fz sz LO
        have FW : Fr [] w wz := HW3.out.trans' tz.f HSUB.out
        have HM2 := HM
        rw [HRR.out] at HM2 HP2
        obtain ⟨q1, q2, q3⟩ := HM2.out _ _ _ rfl
        obtain ⟨tg', tc', nv, L, b1, b2, b3, b4, b11, b12, b13, b14⟩ := hz'.ex
        obtain ⟨na, nc, rfl, _⟩ := own_slice b12
        have hLl : L.length = (ms ++ [(⟨1, [], acc, 0⟩ : PN)]).length := by rw [← b11]; simp
        obtain ⟨_, _, d2, d3, _, _⟩ := b1.cells
        have HLx : Hid (∀ m ∈ L, m.x.text.length ≤ 200020) := fun m hm => q3 m.x (by rw [← b11]; exact List.mem_map_of_mem hm)
        have N5 := nodes5 b12 b14 (fun j hj => (hz'.fb j hj).2) HLx.out
        have CD := T5.rdeep_any wz.heap.size (L.map nd5) wz na L.length nc (by simp) N5 (by have := hbd.out; have := HTL.out; have := hpi; simp at hLl; omega) (Nat.le_refl _)
        rw [deep5 b11] at CD
        have HLl : Hid (L.length = ms.length + 1) := by unfold Hid; simpa using hLl
        have HLm : Hid (L.map MN.x = ms ++ [⟨1, [], acc, 0⟩]) := b11
        have HOw : Hid (wz.ownsRow w.heap.size 37 4 (.slice na L.length nc) L.length (flatM L)) := b12
        have HFz : Hid (∀ j ∈ Fz, w.heap.size ≤ j ∧ j < wz.heap.size) := fun j hj => ⟨(hz'.fb j hj).1, (hz'.fb j hj).2⟩
        have HJ : Hid (ms.length + 1 ≤ 400003) := by unfold Hid; have := hbd.out; have := HTL.out; omega
        have hLc : (L.length : Int) ≤ 400003 := by have := HLl.out; have := HJ.out; omega
        clear N5 hLl b12 b11 KV0 LO CL q3 HM
        generalize ms ++ [(⟨1, [], acc, 0⟩ : PN)] = MS at *
        have HLM : Hid (L.length = MS.length) := by unfold Hid; rw [← HLm.out]; simp
        by_cases h5 : 50000 < MS.length
        · have h5' : (50000 : Int) < (L.length : Int) := by have := HLM.out; omega
          have HQ : Hid (prgL s = .error (0, 2)) := HP2.out.trans (by simp only; rw [if_pos h5])
          go_wp2
          exact bodyPost_ret (results_tmp3 rfl _ _ _) rfl ⟨PrgOut.err HQ.out, FW⟩
        · have h5' : (L.length : Int) ≤ 50000 := by have := HLM.out; omega
          by_cases h6 : 200 < deepP MS
          · have h6' : (200 : Int) < (deepP MS : Int) := by omega
            have HQ : Hid (prgL s = .error (0, 51)) := HP2.out.trans (by simp only; rw [if_neg h5, if_pos h6])
            go_wp2_with (go_at_call 31; refine CD.mono ?_)
            rintro e w9 ⟨rfl, f9⟩
            go_wp2
            exact bodyPost_ret (results_tmp3 rfl _ _ _) rfl ⟨PrgOut.err HQ.out, FW.trans f9⟩
          · have h6' : (deepP MS : Int) ≤ 200 := by omega
            have HQ : Hid (prgL s = .ok MS) := HP2.out.trans (by simp only; rw [if_neg h5, if_neg h6])
            go_wp2_with (go_at_call 31; refine CD.mono ?_)
            rintro e w9 ⟨rfl, f9⟩
            have d22 := f9.cell1 d2 (by simp)
            go_wp2
            exact bodyPost_ret (results_tmp3 rfl _ _ _) rfl ⟨PrgOut.ok HQ.out ⟨_, L, Fz, rfl, HLm.out, own_fr HOw.out f9 (by simp), b13, fun m hm => (b14 m hm).fr f9 (by simp), fun j hj => ⟨(HFz.out j hj).1, Nat.lt_of_lt_of_le (HFz.out j hj).2 f9.size⟩⟩, FW.trans f9⟩
      · rw [if_neg e1] at hP
        have k0 := mt (HKT.out.stop hpi).2 e1
        have hk : ((((tk us p).kind : Nat) : Int) != 0) = true := by simp; omega
        have HP : Hid (_ = some r) := hP
        clear hP e1 k0
        go_wp2_with fail
        refine C5.mono ?_
        rintro e w5 ⟨rfl, f5⟩
        have fl5 := fld0 ((tk us p).kind : Nat) ((tk us p).frm : Nat) ((tk us p).to : Nat) ((tk us p).n : Nat) ⟨(tk us p).text.toArray⟩ w5
        have h5 := hps.fr f5 (by simp)
        have o5 := own_fr o0 f5 (by simp)
        have t5 := htr.trans (Tr.of0 f5)
        clear C5 c3w
        rcases bindR_some HP.out with ⟨er, hr, he⟩ | ⟨v6, j6, n6, hr, hP⟩
        · subst he
          have C6 := HH.out g' g' .decl _ _ w5 _ _ (Nat.le_refl _) h5 trivial (by have := hbd.out; omega) hr
          simp only [RCtr, ptr] at C6
          go_wp2_with fail
          refine C6.mono ?_
          rintro e w6 ⟨x6, rfl, hb6, f6⟩
          clear C6
          have fe6 := t5.ends f6
          have ob9 := own_fr o5 f6 (fun k hk => ny0 k hk)
          have HB9 : Hid (w.heap.size ≤ w6.heap.size) := by have := HBW.out; have := fe6.size; unfold Hid; omega
          go_wp2_with (at_builtin; refine wpList_append_own_at _ rfl _ _ 35 rfl w.heap.size 3 i3 (.int .i64 0) 1 8 under35 hi3 hz hz1 hby rfl (by decide) (.slice ka acc.length kc) acc.length (acc.map (fun k => Value.int .i64 (k : Nat))) rfl (ob9.alloc _) ⟨w6.heap.size, 0, none⟩ 1 1 [.int .i64 x6] rfl rfl (one_new w6 _) (by simp [Value.oneCell']) (by have := hbd.out; have := HPI.out; have := HTL.out; unfold maxLen; omega) (by have := hbd.out; have := HPI.out; have := HTL.out; omega) (by have := HB9.out; simp; omega) ?_)
          intro v9 w9 hown9 hgrow9 hnil9 hloc9
          have f9 : Fr (Value.slice ka acc.length kc).ownBlock.toList w6 w9 := ((Fr.refl _ _).alloc _).trans ((Fr.ofGrown hgrow9).sub (fun k hk => .inl hk))
          have hb9 := hb6.fr_row ob9 f9
          have fe9 : Fr [rb, g] w3 w9 := (Tr.of fe6).ends_row f9 (fun k hk => z0.out k (by simpa using hk))
          obtain ⟨va, vc, hv9, _⟩ := own_slice hown9
          subst hv9
          clear hown9 hgrow9 hnil9 hloc9 ob9
          have HM9 : Hid (measR us rb w9 = 0) := hb9.meas
          go_wp2
          go_roundw
          case rel => exact .inr ⟨_, rfl, hb9, fe9⟩
          case measure => have e2 := HPI.out; have e3 := HM9.out; omega
        · obtain ⟨oa, ob, oc, od, oe⟩ := run_ok hT (nt := .decl) (ns := ms) hpi trivial hr
          simp only [consN, slack] at oa od
          obtain ⟨m6, rfl, hm6⟩ := oe rfl
          have C6 := HH.out g' g' .decl _ _ w5 _ _ (Nat.le_refl _) h5 trivial (by have := hbd.out; omega) hr
          simp only [RCtr, ptr] at C6
          have HP : Hid (P us g' (.progL (acc ++ [m6])) j6 n6 = some r) := hP
          have B6 : Hid (n6.length ≤ 2 * j6 ∧ p < j6 ∧ j6 < us.length) := by have := hbd.out; unfold Hid; omega
          clear hP hr oa ob oc od oe hm6
          go_wp2_with fail
          refine C6.mono ?_
          rintro e w6 ⟨he, F6, h6, s6⟩
          obtain rfl : e = .returned (.int .i64 (m6 : Nat)) := he
          clear C6
          have t6 := t5.trans s6
          have o6 := own_fr o5 s6.f (fun k hk => ny0 k hk)
          have ny6 : ∀ k, (Value.slice ka acc.length kc).ownBlock = some k → k ∉ F6 := fun k hk => Tr.notin s6 (ny0 k hk) (o5.lt k hk).2
          have HB9 : Hid (w.heap.size ≤ w6.heap.size) := by have := HBW.out; have := t6.f.size; unfold Hid; omega
          go_wp2_with (at_builtin; refine wpList_append_own_at _ rfl _ _ 35 rfl w.heap.size 3 i3 (.int .i64 0) 1 8 under35 hi3 hz hz1 hby rfl (by decide) (.slice ka acc.length kc) acc.length (acc.map (fun k => Value.int .i64 (k : Nat))) rfl (o6.alloc _) ⟨w6.heap.size, 0, none⟩ 1 1 [.int .i64 (m6 : Nat)] rfl rfl (one_new w6 _) (by simp [Value.oneCell']) (by have := hbd.out; have := HPI.out; have := HTL.out; unfold maxLen; omega) (by have := hbd.out; have := HPI.out; have := HTL.out; omega) (by have := HB9.out; simp; omega) ?_)
          intro v9 w9 hown9 hgrow9 hnil9 hloc9
          have f9 : Fr (Value.slice ka acc.length kc).ownBlock.toList w6 w9 := ((Fr.refl _ _).alloc _).trans ((Fr.ofGrown hgrow9).sub (fun k hk => .inl hk))
          have kr9 : KR w.heap.size w3 F6 w6 (.slice ka acc.length kc) acc := ⟨o6, ny6, fun k hk => z0.out k hk⟩
          have h9 := h6.fr f9 (fun k hk => kr9.ni k (by simpa using hk))
          have k9 := kr9.snoc t6.f.size (fun j hj => (h6.fb j hj).2) hown9 (by simpa using hloc9)
          have t9 : Tr [rb, g] w3 F6 w9 := row_tr t6 f9 (fun k hk => kr9.lo k (by simpa using hk))
          clear hown9 hgrow9 hnil9 hloc9 kr9
          have HM9 : Hid (measR us rb w9 = us.length - j6 + 1) := h9.meas
          go_wp2
          go_roundw
          case rel => exact .inl ⟨g', acc ++ [m6], j6, n6, F6, h9, k9, t9, by have := B6.out; have := hbd.out; unfold Hid; simp; omega, HP⟩
          case measure => have e2 := HPI.out; have e3 := HM9.out; have := B6.out; omega
end Go.Proofs.YtnkjgggbiokfbaaGreatDoor
