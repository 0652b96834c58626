/-
  Which texts a node may have, by the program; condition: the table lies as the program's text lays it.
-/
import Derived.Test.YtajkkjohoedhaaaDoorTreeC
namespace Go.Proofs.YtajkkjohoedhaaaDoor
open Go.RowKit
set_option linter.unusedVariables false
set_option linter.unusedSimpArgs false

theorem num_pos {s : ByteArray} {n : Nat} (h : num s = some n) : 0 < s.size := by
  refine Decidable.byContradiction fun hn => ?_
  have : s.data.toList = [] := by rw [← List.length_eq_zero_iff, ← Lib.size_eq]; omega
  rw [num, this] at h
  simp [numL, quotedL, valueL] at h

theorem un_toList (s : ByteArray) : unL s = unaries.contains s.toList := by rw [Lib.toList_data]; rfl
theorem bin_toList (s : ByteArray) : binL s = binaries.contains s.toList := by rw [Lib.toList_data]; rfl

set_option maxRecDepth 100000 in
theorem isUnary_any (s : ByteArray) (w : World) :
    Calls Tryd.prog 48 #[.string s] w fun e w' => e = .returned (.bool (unL s)) ∧ w' = w := by
  have hu := un_toList s
  generalize unL s = R at hu ⊢
  go_enter Tryd.func48, Tryd.ntmps48
  go_wp2
  all_goals go_ret
  all_goals refine ⟨congrArg (fun b => Ending.returned (Value.bool b)) ?_, rfl⟩
  all_goals (simp_all [unaries])

set_option maxRecDepth 100000 in
theorem isBin_any (s : ByteArray) (w : World) :
    Calls Tryd.prog 49 #[.string s] w fun e w' => e = .returned (.bool (binL s)) ∧ w' = w := by
  have hu := bin_toList s
  generalize binL s = R at hu ⊢
  go_enter Tryd.func49, Tryd.ntmps49
  go_wp2
  all_goals go_ret
  all_goals refine ⟨congrArg (fun b => Ending.returned (Value.bool b)) ?_, rfl⟩
  all_goals (simp_all [binaries])

set_option maxRecDepth 100000 in
theorem isDecimal_any (s : ByteArray) (w : World) (hs : s.size ≤ maxLen) :
    Calls Tryd.prog 47 #[.string s] w fun e w' => e = .returned (.bool (decL s)) ∧ w' = w := by
  have C := fun w => number_any s w hs
  unfold decL
  cases hn : num s with
  | none =>
    rw [hn] at C
    go_enter Tryd.func47, Tryd.ntmps47
    go_wp2_with (go_at_call 60; refine (C _).mono ?_; rintro e w' ⟨he, rfl⟩; rw [nOut] at he; subst he)
    go_ret
    exact ⟨rfl, rfl⟩
  | some n =>
    rw [hn] at C
    have hp := num_pos hn
    obtain ⟨l, hl⟩ := head_of hp
    have hb := byte_lt s[0]
    have e1 : (s.toList == [48]) = decide (s.data.toList = [48]) := by rw [Lib.toList_data, Bool.eq_iff_iff]; simp
    have e2 : s.data.toList.headD 0 = s[0] := by rw [hl]; rfl
    rw [e2, ← e1]
    simp only [Option.isSome_some, Bool.true_and]
    clear e1 e2 hl hn
    go_enter Tryd.func47, Tryd.ntmps47
    go_wp2_with (go_at_call 60; refine (C _).mono ?_; rintro e w' ⟨he, rfl⟩; rw [nOut] at he; subst he)
    all_goals go_ret
    all_goals refine ⟨congrArg (fun b => Ending.returned (Value.bool b)) ?_, rfl⟩
    · simp_all
    · rename_i h1 h2
      have e : decide (49 ≤ s[0].toNat ∧ s[0].toNat ≤ 57) = decide ((s[0].toNat : Int) ≤ 57) := by rw [decide_eq_decide]; omega
      rw [e]
    · rename_i h1 h2
      have e : decide (49 ≤ s[0].toNat) = false := by rw [decide_eq_false_iff_not]; omega
      rw [e]; simp

set_option maxRecDepth 100000 in
theorem textFits_any (t : Nat) (ht : t ≤ 4) (s : ByteArray) (w : World) (hs : s.size ≤ maxLen) (T : Tabs w) :
    Calls Tryd.prog 34 #[.int .i64 t, .string s] w fun e w' => e = .returned (.bool (textL t s)) ∧ w' = w := by
  have hE : s.toList.isEmpty = noneL s := by rw [Lib.toList_data]; rfl
  match t, ht with
  | 0, _ =>
    go_enter Tryd.func34, Tryd.ntmps34
    go_wp2
    go_ret
    exact ⟨congrArg (fun b => Ending.returned (Value.bool b)) (by first | rfl | exact hE), rfl⟩
  | 1, _ =>
    go_enter Tryd.func34, Tryd.ntmps34
    go_wp2_with (go_at_call 46; refine (name_any s _ hs T).mono ?_; rintro e w' ⟨rfl, rfl⟩)
    go_ret
    exact ⟨rfl, rfl⟩
  | 2, _ =>
    go_enter Tryd.func34, Tryd.ntmps34
    go_wp2_with (go_at_call 47; refine (isDecimal_any s _ hs).mono ?_; rintro e w' ⟨rfl, rfl⟩)
    go_ret
    exact ⟨rfl, rfl⟩
  | 3, _ =>
    go_enter Tryd.func34, Tryd.ntmps34
    go_wp2_with (go_at_call 48; refine (isUnary_any s _).mono ?_; rintro e w' ⟨rfl, rfl⟩)
    go_ret
    exact ⟨rfl, rfl⟩
  | 4, _ =>
    go_enter Tryd.func34, Tryd.ntmps34
    go_wp2_with (go_at_call 49; refine (isBin_any s _).mono ?_; rintro e w' ⟨rfl, rfl⟩)
    go_ret
    exact ⟨rfl, rfl⟩

/-- A row of marks, of its own. -/
def TB (w : World) (g : Nat) (T : List Bool) : Prop := w.heap[g]? = some (.cells (T.map Value.bool).toArray 4 (0, 0))
theorem TB.fr {w w' : World} {g : Nat} {T : List Bool} {S : List Nat} (h : TB w g T) (f : Fr S w w') (hg : g ∉ S) : TB w' g T :=
  (f.block g (Array.getElem?_eq_some_iff.1 h).1 hg).trans h
theorem TB.lt {w : World} {g : Nat} {T : List Bool} (h : TB w g T) : g < w.heap.size := (Array.getElem?_eq_some_iff.1 h).1
theorem TB.fz {w : World} {g : Nat} {T : List Bool} (h : TB w g T) (i : Nat) : w.frozen? ⟨g, i, none⟩ = false := by unfold TB at h; simp [World.frozen?, h]
theorem TB.cell {w : World} {g : Nat} {T : List Bool} (h : TB w g T) {i : Nat} (hi : i < T.length) : w.cell? ⟨g, i, none⟩ = some (.bool (T.getD i false)) := by
  unfold TB at h
  simp [World.cell?, h, hi, List.getD_eq_getElem?_getD]
theorem TB.set {w : World} {g : Nat} {T : List Bool} (h : TB w g T) (i : Nat) (v : Bool) : TB (w.setCell ⟨g, i, none⟩ (.bool v)) g (T.set i v) := by
  unfold TB
  rw [heap_setCell_same _ _ _ _ _ _ h]
  congr 2
  simp [List.map_set]

def takeOk (n : Nat) (ks : List Int) (T : List Bool) : Bool := (takeL n ks T).isSome

set_option maxRecDepth 100000 in
set_option maxHeartbeats 1000000 in
/-- Kids are marked. -/
theorem take_any (B : Nat) (ks : List Int) (ka : Option Addr) (m kc n : Nat) (w : World) (hkm : ks.length = m) (hk : KAt B w ka ks) (hkl : m ≤ maxLen) (g : Nat) (T : List Bool) (tl tc : Nat) (hT : TB w g T) (htl : T.length = tl) (hn : n ≤ tl) (htm : tl ≤ maxLen) (hg : B ≤ g) :
    Calls Tryd.prog 33 #[.slice ka m kc, .int .i64 n, .slice (some ⟨g, 0, none⟩) tl tc] w fun e w' => e = .returned (.bool (takeL n ks T).isSome) ∧ Fr [g] w w' ∧ ∀ T', takeL n ks T = some T' → TB w' g T' := by
  have HK : Hid (ks.length = m) := hkm
  have HT : Hid (T.length = tl) := htl
  unfold maxLen at hkl htm
  clear hkm htl
  go_enter Tryd.func33, Tryd.ntmps33
  go_wp2
  go_loopw [11] (fun i wr => ∃ p : Nat, p ≤ m ∧ i = .int .i64 p ∧ Fr [g] w wr ∧ ∃ U : List Bool, TB wr g U ∧ U.length = tl ∧ Hid (takeL n (ks.drop p) U = takeL n ks T)) (fun i _ => m - (intOf i).toNat)
  case atStart => exact ⟨0, Nat.zero_le _, rfl, Fr.refl _ _, T, hT, HT.out, rfl⟩
  case round =>
    obtain ⟨p, hp, rfl, fw, U, hU, hUl, he⟩ := hrel
    have HU : Hid (U.length = tl) := hUl
    clear hUl
    by_cases hlt : p < m
    · have hx : ks[p]? = some (ks[p]'(by rw [HK.out]; exact hlt)) := List.getElem?_eq_getElem _
      have hd := List.drop_eq_getElem_cons (show p < ks.length by rw [HK.out]; exact hlt)
      generalize ks[p]'(by rw [HK.out]; exact hlt) = k at hx hd
      obtain ⟨b, o, rfl, hb, hcell⟩ := (hk.fr fw (by simp; omega)) p _ hx
      have HE : Hid (takeL n (k :: ks.drop (p + 1)) U = takeL n ks T) := by unfold Hid; rw [← he.out, hd]
      have HS : Hid (k < 0 ∨ (n : Int) ≤ k ∨ U.getD k.toNat false = true → takeL n ks T = none) := fun h => by rw [← HE.out, takeL, if_pos h]
      have HG : Hid (¬ (k < 0 ∨ (n : Int) ≤ k ∨ U.getD k.toNat false = true) → takeL n (ks.drop (p + 1)) (U.set k.toNat true) = takeL n ks T) := fun h => by rw [← HE.out, takeL, if_neg h]
      clear HE he hd hx hk
      by_cases h1 : k < 0
      · have HR : Hid _ := HS.out (.inl h1)
        clear HS HG
        go_wp2
        go_ret
        exact ⟨by rw [HR.out]; rfl, fw, fun T' h => by rw [HR.out] at h; cases h⟩
      · by_cases h2 : (n : Int) ≤ k
        · have HR : Hid _ := HS.out (.inr (.inl h2))
          clear HS HG
          go_wp2
          go_ret
          exact ⟨by rw [HR.out]; rfl, fw, fun T' h => by rw [HR.out] at h; cases h⟩
        · obtain ⟨q, rfl⟩ := Int.eq_ofNat_of_zero_le (show 0 ≤ k by omega)
          have hqn : q < n := by omega
          have hc := hU.cell (i := q) (by rw [HU.out]; omega)
          simp only [Int.toNat_natCast] at HS HG
          cases h3 : U.getD q false with
          | true =>
            have HR : Hid _ := HS.out (.inr (.inr h3))
            rw [h3] at hc
            clear HS HG h3
            go_wp2
            go_ret
            exact ⟨by rw [HR.out]; rfl, fw, fun T' h => by rw [HR.out] at h; cases h⟩
          | false =>
            have HR : Hid _ := HG.out (by rw [h3]; simp; omega)
            rw [h3] at hc
            have hS := hU.set q true
            have hfz := hU.fz q
            clear HS HG h3
            go_wp2
            go_roundw
            case rel => exact ⟨p + 1, hlt, by go_num, fw.setCell (.inl (by simp)) _, U.set q true, hS, by rw [List.length_set]; exact HU.out, HR⟩
            case measure => simp [intOf]; omega
    · have HE : Hid (takeL n ks T = some U) := by
        unfold Hid
        rw [← he.out, List.drop_of_length_le (by rw [HK.out]; omega)]
        rfl
      go_wp2
      go_ret
      exact ⟨by rw [HE.out]; rfl, fw, fun T' h => by rw [HE.out] at h; injection h with h; rw [← h]; exact hU⟩
end Go.Proofs.YtajkkjohoedhaaaDoor
