/-
  What the tokens of a text are like: none but the last is the end, no number is too great; no condition.
-/
import Derived.Test.YtekjfddcbcijdaaGreatDoorParY
namespace Go.Proofs.YtekjfddcbcijdaaGreatDoor
open Go.RowKit
set_option linter.unusedVariables false
set_option linter.unusedSimpArgs false

theorem valL_le {base : Nat} (hb : 0 < base) (hb2 : base ≤ 16) : ∀ (l : List UInt8) (n m : Nat), n ≤ 9223372036854775807 → valL base l n = some m → m ≤ 9223372036854775807
  | [], n, m, hn, h => by simp [valL] at h; omega
  | c :: l, n, m, hn, h => by
    simp only [valL] at h
    split at h
    · cases h
    · rename_i hc
      refine valL_le hb hb2 l _ m ?_ h
      have h1 : n ≤ (9223372036854775807 - fig c.toNat) / base := by omega
      have h2 := (Nat.le_div_iff_mul_le hb).1 h1
      omega
theorem numL_le {l : List UInt8} {n : Nat} (h : numL l = some n) : n ≤ 9223372036854775807 := by
  unfold numL at h
  split at h
  · split at h
    · cases h
      have := (l.getD 1 0).toNat_lt
      omega
    · cases h
  · split at h
    · unfold valueL at h
      split at h
      · cases h
      · exact valL_le (by omega) (by omega) _ _ _ (by omega) h
    · unfold valueL at h
      split at h
      · cases h
      · exact valL_le (by omega) (by omega) _ _ _ (by omega) h
theorem take_ne {l : List UInt8} {n : Nat} (hl : l ≠ []) (hn : 0 < n) : l.take n ≠ [] := by
  cases l with
  | nil => exact absurd rfl hl
  | cons c r => cases n with
    | zero => omega
    | succ n => simp
theorem readL_good {p : Nat} {l : List UInt8} {t : Tok} (hl : l ≠ []) (h : readL p l = .ok t) : nxT t ≠ [] ∧ t.n ≤ 9223372036854775807 := by
  have ht := (readL_to hl h).1
  unfold readL at h
  split at h
  · cases h
    simp only at ht
    have hp := take_ne hl (n := runL l) (by omega)
    refine ⟨?_, by simp⟩
    unfold nxT
    simp only
    split <;> simp [hp]
  · split at h
    · split at h
      · cases h
      · rename_i hn
        cases h
        exact ⟨by simp [nxT], numL_le hn⟩
    · split at h
      · split at h
        · cases h
        · rename_i hn
          cases h
          exact ⟨by simp [nxT], numL_le hn⟩
      · split at h
        · cases h
        · cases h
          simp only at ht
          have hp := take_ne hl (n := signL l) (by omega)
          exact ⟨by simp [nxT, hp], by simp⟩
theorem scanL_good : ∀ (f p : Nat) (l : List UInt8), (∀ t ∈ (scanL f p l).1, nxT t ≠ [] ∧ t.n ≤ 9223372036854775807) ∧ (scanL f p l).1.length ≤ l.length
  | 0, p, l => by simp [scanL]
  | f + 1, p, l => by
    simp only [scanL]
    split
    · simp
    · rename_i hs
      have hs2 := skipL_le false l
      have hne : l.drop (skipL false l) ≠ [] := fun e => by
        have := congrArg List.length e
        simp at this
        omega
      split
      · simp
      · rename_i t ht
        have h1 := readL_good hne ht
        have h2 := readL_to hne ht
        have h3 := scanL_good f t.to (l.drop (t.to - p))
        refine ⟨fun u hu => ?_, ?_⟩
        · rcases List.mem_cons.1 hu with rfl | hu
          · exact h1
          · exact h3.1 u hu
        · have := h3.2
          simp only [List.length_cons, List.length_drop] at this ⊢
          omega
theorem toks_of {s : ByteArray} {ts : List Tok} (h : (sc s 0).1 = ts) : Toks (ts ++ [⟨0, [], s.size, s.size, 0⟩]) ∧ ts.length ≤ s.size := by
  have g := scanL_good (s.size + 1) 0 (s.data.toList.drop 0)
  have e : (scanL (s.size + 1) 0 (s.data.toList.drop 0)).1 = ts := h
  rw [e] at g
  have hl : (s.data.toList.drop 0).length = s.size := by rw [List.length_drop, ← Lib.size_eq, Nat.sub_zero]
  refine ⟨⟨by simp, fun i hi => ?_, fun i => ?_⟩, by rw [← hl]; exact g.2⟩
  · simp only [List.length_append, List.length_cons, List.length_nil] at hi ⊢
    unfold nx tk
    rw [List.getD_eq_getElem?_getD]
    by_cases hlt : i < ts.length
    · rw [List.getElem?_append_left hlt, List.getElem?_eq_getElem hlt]
      exact ⟨fun e => absurd e (g.1 _ (List.getElem_mem hlt)).1, fun e => by omega⟩
    · have : i = ts.length := by omega
      subst this
      simp [nxT]
  · unfold tk
    rw [List.getD_eq_getElem?_getD]
    by_cases hlt : i < ts.length
    · rw [List.getElem?_append_left hlt, List.getElem?_eq_getElem hlt]
      exact (g.1 _ (List.getElem_mem hlt)).2
    · by_cases hi : i = ts.length
      · subst hi; simp
      · rw [List.getElem?_eq_none (by simp; omega)]; simp
theorem readL_err {p : Nat} {l : List UInt8} {e : Nat} (h : readL p l = .error e) : e = 40 ∨ e = 41 := by
  unfold readL at h
  split at h
  · cases h
  · split at h
    · split at h
      · cases h; exact .inr rfl
      · cases h
    · split at h
      · split at h
        · cases h; exact .inr rfl
        · cases h
      · split at h
        · cases h; exact .inl rfl
        · cases h
theorem scanL_err : ∀ (f p : Nat) (l : List UInt8) (x : Nat × Nat), (scanL f p l).2 = some x → x.2 = 40 ∨ x.2 = 41
  | 0, p, l, x, h => by simp [scanL] at h
  | f + 1, p, l, x, h => by
    simp only [scanL] at h
    split at h
    · cases h
    · split at h
      · rename_i e he
        cases h
        exact readL_err he
      · exact scanL_err f _ _ x h
end Go.Proofs.YtekjfddcbcijdaaGreatDoor
