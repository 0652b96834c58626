/-
  Numerals can be read back; pure.
-/
import Derived.Test.YtefkcmeeagflmaaDoorMhPurH
namespace Go.Proofs.YtefkcmeeagflmaaDoor
open Go.RowKit
set_option linter.unusedVariables false
set_option linter.unusedSimpArgs false

/-- A numeral's sign or digit. -/
def nc (c : UInt8) : Prop := c.toNat = 45 ∨ (48 ≤ c.toNat ∧ c.toNat ≤ 57)
def nof (l : List UInt8) : Nat := l.foldl (fun a c => a * 10 + (c.toNat - 48)) 0
theorem dig_nat (d : Nat) (h : d < 10) : (UInt8.ofNat (48 + d)).toNat = 48 + d := by
  rw [UInt8.toNat_ofNat']
  omega
theorem dec_nof : ∀ (k u : Nat), u ≤ k → nof (Lib.decDigits u) = u
  | k, u, hk => by
    rw [Lib.decDigits]
    split
    · rename_i h
      simp only [nof, List.foldl_cons, List.foldl_nil]
      rw [dig_nat u h]
      omega
    · rename_i h
      cases k with
      | zero => omega
      | succ k =>
        have ih := dec_nof k (u / 10) (by omega)
        unfold nof at ih ⊢
        rw [List.foldl_append, ih]
        simp only [List.foldl_cons, List.foldl_nil]
        rw [dig_nat _ (by omega)]
        omega
theorem dec_nc : ∀ (k u : Nat), u ≤ k → (∀ c, c ∈ Lib.decDigits u → 48 ≤ c.toNat ∧ c.toNat ≤ 57) ∧ Lib.decDigits u ≠ []
  | k, u, hk => by
    rw [Lib.decDigits]
    split
    · rename_i h
      refine ⟨fun c hc => ?_, by simp⟩
      simp only [List.mem_singleton] at hc
      rw [hc, dig_nat u h]
      omega
    · rename_i h
      cases k with
      | zero => omega
      | succ k =>
        have ih := dec_nc k (u / 10) (by omega)
        refine ⟨fun c hc => ?_, by simp⟩
        simp only [List.mem_append, List.mem_singleton] at hc
        rcases hc with hc | hc
        · exact ih.1 c hc
        · rw [hc, dig_nat _ (by omega)]
          omega
theorem itoa_nc (n : Int) : (∀ c, c ∈ Lib.itoa n → nc c) ∧ Lib.itoa n ≠ [] := by
  unfold Lib.itoa
  split
  · refine ⟨fun c hc => ?_, by simp⟩
    simp only [List.mem_cons] at hc
    rcases hc with rfl | hc
    · exact .inl rfl
    · exact .inr ((dec_nc _ _ (Nat.le_refl _)).1 c hc)
  · exact ⟨fun c hc => .inr ((dec_nc _ _ (Nat.le_refl _)).1 c hc), (dec_nc _ _ (Nat.le_refl _)).2⟩
theorem dec_inj {u v : Nat} (h : Lib.decDigits u = Lib.decDigits v) : u = v := by
  have h1 := dec_nof u u (Nat.le_refl _)
  have h2 := dec_nof v v (Nat.le_refl _)
  rw [h, h2] at h1
  exact h1.symm
theorem dec_minus {u v : Nat} (h : 45 :: Lib.decDigits u = Lib.decDigits v) : False := by
  have := (dec_nc v v (Nat.le_refl _)).1 45 (by rw [← h]; simp)
  exact absurd this.1 (by decide)
theorem itoa_inj {n m : Int} (h : Lib.itoa n = Lib.itoa m) : n = m := by
  unfold Lib.itoa at h
  split at h
  · split at h
    · injection h with _ h
      have := dec_inj h
      omega
    · exact (dec_minus h).elim
  · split at h
    · exact (dec_minus h.symm).elim
    · have := dec_inj h
      omega

/-- No numeral goes on here. -/
def nonN (r : List UInt8) : Prop := ∀ c t, r = c :: t → ¬ nc c
theorem cut : ∀ (a b ra rb : List UInt8), (∀ c, c ∈ a → nc c) → (∀ c, c ∈ b → nc c) → nonN ra → nonN rb → a ++ ra = b ++ rb → a = b ∧ ra = rb
  | [], [], ra, rb, _, _, _, _, h => ⟨rfl, h⟩
  | [], d :: b, ra, rb, _, hb, ha', _, h => absurd (hb d (by simp)) (ha' d (b ++ rb) h)
  | c :: a, [], ra, rb, ha, _, _, hb', h => absurd (ha c (by simp)) (hb' c (a ++ ra) h.symm)
  | c :: a, d :: b, ra, rb, ha, hb, h1, h2, h => by
    injection h with h3 h4
    obtain ⟨h5, h6⟩ := cut a b ra rb (fun x hx => ha x (by simp [hx])) (fun x hx => hb x (by simp [hx])) h1 h2 h4
    exact ⟨by rw [h3, h5], h6⟩
theorem cutN {n m : Int} {ra rb : List UInt8} (h1 : nonN ra) (h2 : nonN rb) (h : Lib.itoa n ++ ra = Lib.itoa m ++ rb) : n = m ∧ ra = rb := by
  obtain ⟨h3, h4⟩ := cut _ _ ra rb (itoa_nc n).1 (itoa_nc m).1 h1 h2 h
  exact ⟨itoa_inj h3, h4⟩
theorem itoa_head (n : Int) : ∃ c t, Lib.itoa n = c :: t ∧ nc c := by
  obtain ⟨h1, h2⟩ := itoa_nc n
  cases h : Lib.itoa n with
  | nil => exact absurd h h2
  | cons c t => exact ⟨c, t, rfl, h1 c (by rw [h]; simp)⟩
theorem nc_not {c : UInt8} (h : c = 32 ∨ c = 93 ∨ c = 125 ∨ c = 91 ∨ c = 123 ∨ c = 64 ∨ c = 110 ∨ c = 63) : ¬ nc c := by
  unfold nc
  rcases h with rfl | rfl | rfl | rfl | rfl | rfl | rfl | rfl <;> decide
end Go.Proofs.YtefkcmeeagflmaaDoor
