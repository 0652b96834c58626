/-
  The tokens ahead of a fault are those of the text ahead of it; no condition.
-/
import Derived.Test.YtcfhngfogclheaaDoorEachA
namespace Go.Proofs.YtcfhngfogclheaaDoor
open Go.RowKit

theorem skip_le_take (b : Bool) (l : List UInt8) (m : Nat) (h : skipL b l ≤ m) : skipL b (l.take m) = skipL b l := by
  induction l generalizing b m with
  | nil => simp [skipL]
  | cons c l ih =>
    cases b
    · by_cases h1 : isBl c.toNat = true
      · have e : skipL false (c :: l) = skipL false l + 1 := by simp [skipL, h1]
        rw [e] at h ⊢
        obtain ⟨m, rfl⟩ : ∃ n, m = n + 1 := ⟨m - 1, by omega⟩
        rw [List.take_succ_cons]
        simp [skipL, h1, ih false m (by omega)]
      · by_cases h2 : c.toNat = 47 ∧ l.head? = some 47
        · have e : skipL false (c :: l) = skipL true l + 1 := by simp only [skipL]; rw [if_neg h1, if_pos h2]
          rw [e] at h ⊢
          obtain ⟨m, rfl⟩ : ∃ n, m = n + 1 := ⟨m - 1, by omega⟩
          rw [List.take_succ_cons]
          have hm : 1 ≤ m := by
            cases l with
            | nil => simp at h2
            | cons x r =>
              have hx : x = 47 := by simpa using h2.2
              subst hx
              have : skipL true ((47 : UInt8) :: r) = skipL true r + 1 := by simp [skipL]
              omega
          have hh : (l.take m).head? = some 47 := by
            cases l with
            | nil => simp at h2
            | cons x r =>
              obtain ⟨n, rfl⟩ : ∃ n, m = n + 1 := ⟨m - 1, by omega⟩
              simpa using h2.2
          have h2' : c.toNat = 47 ∧ (l.take m).head? = some 47 := ⟨h2.1, hh⟩
          simp only [skipL]
          rw [if_neg (by simpa using h1), if_pos h2', ih true m (by omega)]
        · have e : skipL false (c :: l) = 0 := by simp only [skipL]; rw [if_neg h1, if_neg h2]
          rw [e]
          cases m with
          | zero => simp [skipL]
          | succ m =>
            rw [List.take_succ_cons]
            have h2' : ¬ (c.toNat = 47 ∧ (l.take m).head? = some 47) := fun hh => h2 ⟨hh.1, by
              have := hh.2
              cases l with
              | nil => simp at this
              | cons x r =>
                cases m with
                | zero => simp at this
                | succ m => simpa using this⟩
            simp only [skipL]
            rw [if_neg (by simpa using h1), if_neg h2']
    · by_cases h1 : c.toNat = 10
      · have e : skipL true (c :: l) = skipL false l + 1 := by simp [skipL, h1]
        rw [e] at h ⊢
        obtain ⟨m, rfl⟩ : ∃ n, m = n + 1 := ⟨m - 1, by omega⟩
        rw [List.take_succ_cons]
        simp [skipL, h1, ih false m (by omega)]
      · have e : skipL true (c :: l) = skipL true l + 1 := by simp [skipL, h1]
        rw [e] at h ⊢
        obtain ⟨m, rfl⟩ : ∃ n, m = n + 1 := ⟨m - 1, by omega⟩
        rw [List.take_succ_cons]
        simp [skipL, h1, ih true m (by omega)]
theorem run_le_take (l : List UInt8) (m : Nat) (h : runL l ≤ m) : runL (l.take m) = runL l := by
  induction l generalizing m with
  | nil => simp [runL]
  | cons c l ih =>
    by_cases h1 : isWd c.toNat = true
    · have e : runL (c :: l) = runL l + 1 := by simp [runL, h1]
      rw [e] at h ⊢
      obtain ⟨m, rfl⟩ : ∃ n, m = n + 1 := ⟨m - 1, by omega⟩
      rw [List.take_succ_cons]
      simp [runL, h1, ih m (by omega)]
    · have e : runL (c :: l) = 0 := by simp [runL, h1]
      rw [e]
      cases m with
      | zero => simp [runL]
      | succ m => simp [runL, h1]
theorem sign_le_take (l : List UInt8) (m : Nat) (h0 : signL l ≠ 0) (h : signL l ≤ m) : signL (l.take m) = signL l := by
  unfold signL at h0 h ⊢
  cases hf : signs.find? (fun g => g.isPrefixOf l) with
  | none => rw [hf] at h0; simp at h0
  | some g =>
    rw [hf] at h
    simp only at h
    have hg := List.find?_some hf
    rw [List.isPrefixOf_iff_prefix] at hg
    have : signs.find? (fun g => g.isPrefixOf (l.take m)) = some g := by
      rw [List.find?_eq_some_iff_append] at hf ⊢
      obtain ⟨h1, la, lb, h2, h3⟩ := hf
      refine ⟨?_, la, lb, h2, fun a ha => ?_⟩
      · rw [List.isPrefixOf_iff_prefix]
        exact List.prefix_take_iff.2 ⟨hg, h⟩
      · have := h3 a ha
        simp only [Bool.not_eq_eq_eq_not, Bool.not_true] at this ⊢
        rw [Bool.eq_false_iff] at this ⊢
        intro hp
        apply this
        rw [List.isPrefixOf_iff_prefix] at hp ⊢
        exact hp.trans (List.take_prefix _ _)
    rw [this]
theorem num_len {l : List UInt8} {n : Nat} (h39 : l.head? = some 39) (h : numL l = some n) : l.length = 3 := by
  by_cases hq : quotedL l = true
  · unfold quotedL at hq
    exact (of_decide_eq_true hq).1
  · have hz : 0 < (⟨l.toArray⟩ : ByteArray).size := by
      rw [Lib.size_eq]
      cases l with
      | nil => simp at h39
      | cons => simp
    have hb := num_bad (s := ⟨l.toArray⟩) hz (by
      cases l with
      | nil => simp at h39
      | cons x r =>
        have hx : x = 39 := by simpa using h39
        subst hx
        rfl) (by simpa using hq)
    rw [num_mk] at hb
    rw [hb] at h
    cases h

theorem readL_take {p m : Nat} {l : List UInt8} {t : Tok} (hl : l ≠ []) (h : readL p l = .ok t) (hm : t.to ≤ p + m) : readL p (l.take m) = .ok t := by
  have hto := readL_to hl h
  obtain ⟨c, r, rfl⟩ : ∃ c r, l = c :: r := by
    cases l with
    | nil => exact absurd rfl hl
    | cons c r => exact ⟨c, r, rfl⟩
  obtain ⟨n, rfl⟩ : ∃ n, m = n + 1 := ⟨m - 1, by omega⟩
  have hh : ((c :: r).take (n + 1)).getD 0 0 = (c :: r).getD 0 0 := by simp
  unfold readL at h ⊢
  rw [hh]
  split at h
  · rename_i h2
    rw [if_pos h2]
    injection h with h
    have hr : runL (c :: r) ≤ n + 1 := by rw [← h] at hm; simp at hm; omega
    rw [run_le_take _ _ hr, List.take_take, Nat.min_eq_left hr, h]
  · rename_i h2
    rw [if_neg h2]
    split at h
    · rename_i h3
      rw [if_pos h3]
      split at h
      · cases h
      · rename_i k hk
        injection h with h
        have hr : runL (c :: r) ≤ n + 1 := by rw [← h] at hm; simp at hm; omega
        rw [run_le_take _ _ hr, List.take_take, Nat.min_eq_left hr, hk]
        simp only
        rw [h]
    · rename_i h3
      rw [if_neg h3]
      split at h
      · rename_i h4
        rw [if_pos h4]
        split at h
        · cases h
        · rename_i k hk
          injection h with h
          have h39 : c = 39 := by
            have := (kind_quote c.toNat).1 (by simpa using h4)
            have h9 := u8eq c 39 (by decide)
            exact h9.mpr this
          have hl3 := num_len (l := (c :: r).take 3) (by simp [h39]) hk
          have hlen : 3 ≤ (c :: r).length := by rw [List.length_take] at hl3; omega
          have h3m : 3 ≤ n + 1 := by rw [← h] at hm; simp only at hm; omega
          rw [List.take_take, Nat.min_eq_left h3m, hk]
          simp only
          rw [← h]
          congr 2
          rw [List.length_take]
          omega
      · rename_i h4
        rw [if_neg h4]
        split at h
        · cases h
        · rename_i hz
          injection h with h
          have hr : signL (c :: r) ≤ n + 1 := by rw [← h] at hm; simp at hm; omega
          rw [sign_le_take _ _ hz hr, if_neg hz, List.take_take, Nat.min_eq_left hr, h]

/-- The text ahead of a fault. -/
theorem scanL_take : ∀ (f p : Nat) (l : List UInt8) (ts : List Tok) (q e : Nat), l.length < f → scanL f p l = (ts, some (q, e)) → p ≤ q ∧ q ≤ p + l.length ∧ scanL f p (l.take (q - p)) = (ts, none) := by
  intro f
  induction f with
  | zero => intro p l ts q e h; omega
  | succ f ih =>
    intro p l ts q e hf h
    have hle := skipL_le false l
    simp only [scanL] at h
    split at h
    · simp at h
    · rename_i hne'
      cases hr : readL (p + skipL false l) (l.drop (skipL false l)) with
      | error e' =>
        rw [hr] at h
        simp only [Prod.mk.injEq, Option.some.injEq] at h
        obtain ⟨rfl, rfl, rfl⟩ := h
        refine ⟨by omega, by omega, ?_⟩
        rw [show p + skipL false l - p = skipL false l from by omega]
        simp only [scanL]
        rw [skip_le_take _ _ _ (Nat.le_refl _), if_pos (by rw [List.length_take]; omega)]
      | ok t =>
        rw [hr] at h
        have hne : l.drop (skipL false l) ≠ [] := fun e => by
          have := congrArg List.length e
          simp at this
          omega
        have ht := readL_to hne hr
        rw [List.length_drop] at ht
        simp only [Prod.mk.injEq] at h
        obtain ⟨h1, h2⟩ := h
        have hlen : (l.drop (t.to - p)).length = l.length - (t.to - p) := List.length_drop
        obtain ⟨i1, i2, i3⟩ := ih t.to (l.drop (t.to - p)) (scanL f t.to (l.drop (t.to - p))).1 q e (by omega) (by rw [← h2])
        rw [hlen] at i2
        refine ⟨by omega, by omega, ?_⟩
        simp only [scanL]
        rw [skip_le_take false l (q - p) (by omega), if_neg (by rw [List.length_take]; omega), List.drop_take, readL_take hne hr (by omega)]
        simp only
        rw [List.drop_take, show q - p - (t.to - p) = q - t.to from by omega, i3, h1]
theorem sc_good {s : ByteArray} {ts : List Tok} {p c : Nat} (h : sc s 0 = (ts, some (p, c))) : p ≤ s.size ∧ sc (s.extract 0 p) 0 = (ts, none) := by
  have hp := sc_pos h
  refine ⟨hp, ?_⟩
  unfold sc at h ⊢
  rw [List.drop_zero] at h ⊢
  obtain ⟨_, _, h3⟩ := scanL_take _ _ _ _ _ _ (by rw [← Lib.size_eq]; omega) h
  have hd : (s.extract 0 p).data.toList = s.data.toList.take p := by rw [Lib.extract_data]; simp
  have hz : (s.extract 0 p).size = p := by rw [ByteArray.size_extract]; omega
  rw [hd, hz, ← scanL_fuel (s.size + 1) (p + 1) 0 _ (by rw [List.length_take, ← Lib.size_eq]; omega) (by rw [List.length_take]; omega)]
  exact h3
end Go.Proofs.YtcfhngfogclheaaDoor
