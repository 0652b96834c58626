/-
  Which registers are live, purely: the least sets, sets of words, the registers of a set in order; no condition.
-/
import Derived.Test.YtajdnakpljgkpaaDoorIrK
import Derived.Test.YtajdnakpljgkpaaDoorIrC
import Derived.Lib.TrailingZeros
namespace Go.Proofs.YtajdnakpljgkpaaDoor
open Go.RowKit
set_option linter.unusedVariables false
set_option linter.unusedSimpArgs false

def rdL (x : In) : List Int := regsL x (rT x.op)
def wrI (x : In) : Int := wrL (regsL x (wT x.op))
/-- Which registers count. -/
def cnt (rs r : Int) : Prop := 0 ≤ r ∧ r < rs ∧ r < 1000
instance (rs r : Int) : Decidable (cnt rs r) := by unfold cnt; exact inferInstance
/-- Sets that have what they must. -/
structure Closed (L : List In) (rs : Int) (S : Nat → Nat → Prop) : Prop where
  rd : ∀ (p : Nat) (x : In) (r : Nat), L[p]? = some x → (r : Int) ∈ rdL x → cnt rs r → S p r
  nx : ∀ (p : Nat) (x : In) (k r : Nat), L[p]? = some x → (k : Int) ∈ nextL L p → S k r → cnt rs r → (r : Int) ≠ wrI x → S p r
/-- The least of them. -/
structure Least (L : List In) (rs : Int) (S : Nat → Nat → Prop) : Prop where
  cl : Closed L rs S
  le : ∀ T : Nat → Nat → Prop, Closed L rs T → ∀ p r, p < L.length → S p r → T p r
theorem Least.cnt {L : List In} {rs : Int} {S : Nat → Nat → Prop} (h : Least L rs S) {p r : Nat} (hp : p < L.length) (hr : S p r) : cnt rs r :=
  h.le (fun _ r => Go.Proofs.YtajdnakpljgkpaaDoor.cnt rs r) ⟨fun p x r _ _ hc => hc, fun p x k r _ _ _ hc _ => hc⟩ p r hp hr
theorem Least.iff {L : List In} {rs : Int} {S T : Nat → Nat → Prop} (h : Least L rs S) (k : Least L rs T) {p r : Nat} (hp : p < L.length) : S p r ↔ T p r :=
  ⟨h.le T k.cl p r hp, k.le S h.cl p r hp⟩

/-- A set of registers as words. -/
def hasS (s : Nat → Nat) (r : Nat) : Bool := (s (r / 64)).testBit (r % 64)
def joinS (s t : Nat → Nat) : Nat → Nat := fun i => s i ||| t i
def clrS (s : Nat → Nat) (r : Nat) : Nat → Nat := fun i => if i = r / 64 then s i &&& (18446744073709551615 - 2 ^ (r % 64)) else s i
def addS (s : Nat → Nat) (r : Nat) : Nat → Nat := fun i => if i = r / 64 then s i ||| 2 ^ (r % 64) else s i
def witS (s : Nat → Nat) (r : Int) : Nat → Nat := if 0 ≤ r ∧ r < 1000 ∧ hasS s r.toNat = true then clrS s r.toNat else s
/-- Words that may be. -/
def okS (s : Nat → Nat) : Prop := ∀ i, s i < 18446744073709551616
theorem okS.zero : okS (fun _ => 0) := fun i => Nat.zero_lt_succ _
theorem okS.join {s t : Nat → Nat} (h : okS s) (k : okS t) : okS (joinS s t) := fun i => by
  have := Nat.or_lt_two_pow (n := 64) (h i) (k i)
  exact this
theorem pow_lt (r : Nat) : 2 ^ (r % 64) < 18446744073709551616 := by
  have h : 2 ^ (r % 64) ≤ 2 ^ 63 := Nat.pow_le_pow_right (by decide) (by omega)
  omega
theorem okS.add {s : Nat → Nat} (h : okS s) (r : Nat) : okS (addS s r) := fun i => by
  unfold addS
  split
  · exact Nat.or_lt_two_pow (n := 64) (h i) (pow_lt r)
  · exact h i
theorem okS.clr {s : Nat → Nat} (h : okS s) (r : Nat) : okS (clrS s r) := fun i => by
  unfold clrS
  split
  · exact Nat.lt_of_le_of_lt Nat.and_le_left (h i)
  · exact h i
theorem okS.wit {s : Nat → Nat} (h : okS s) (r : Int) : okS (witS s r) := by
  unfold witS
  split
  · exact h.clr _
  · exact h
theorem hasS_zero (r : Nat) : hasS (fun _ => 0) r = false := by simp [hasS]
theorem hasS_join (s t : Nat → Nat) (r : Nat) : hasS (joinS s t) r = (hasS s r || hasS t r) := by simp [hasS, joinS, Nat.testBit_or]
theorem hasS_add (s : Nat → Nat) (q r : Nat) : hasS (addS s q) r = (hasS s r || decide (r = q)) := by
  unfold hasS addS
  split
  · rename_i h
    rw [Nat.testBit_or, Nat.testBit_two_pow]
    congr 1
    apply decide_eq_decide.2
    omega
  · rename_i h
    have : r ≠ q := fun e => h (by rw [e])
    simp [this]
theorem full_bit (k i : Nat) (hk : k < 64) (hi : i < 64) : (18446744073709551615 - 2 ^ k).testBit i = decide (i ≠ k) := by
  have h : 18446744073709551615 - 2 ^ k = 2 ^ 64 - (2 ^ k + 1) := by omega
  have hl : 2 ^ k < 2 ^ 64 := Nat.pow_lt_pow_right (by decide) hk
  rw [h, Nat.testBit_two_pow_sub_succ hl, Nat.testBit_two_pow]
  simp [hi, eq_comm]
theorem hasS_clr (s : Nat → Nat) (q r : Nat) : hasS (clrS s q) r = (hasS s r && decide (r ≠ q)) := by
  unfold hasS clrS
  split
  · rename_i h
    rw [Nat.testBit_and, full_bit _ _ (Nat.mod_lt _ (by decide)) (Nat.mod_lt _ (by decide))]
    congr 1
    apply decide_eq_decide.2
    omega
  · rename_i h
    have : r ≠ q := fun e => h (by rw [e])
    simp [this]
theorem hasS_wit (s : Nat → Nat) (q : Int) (r : Nat) (hq : q < 1000) : hasS (witS s q) r = (hasS s r && decide ((r : Int) ≠ q)) := by
  unfold witS
  split
  · rename_i h
    rw [hasS_clr]
    congr 1
    apply decide_eq_decide.2
    omega
  · rename_i h
    by_cases e : (r : Int) = q
    · subst e
      have : hasS s r = false := by
        cases hh : hasS s r with
        | false => rfl
        | true => exact absurd ⟨by omega, by omega, by simpa using hh⟩ h
      simp [this]
    · simp [e]

/-- What is not in a set. -/
def outS (s : Nat → Nat) : Nat := ((List.range 1024).filter (fun r => !hasS s r)).length
theorem outS_le {s t : Nat → Nat} (h : ∀ r, hasS s r = true → hasS t r = true) : outS t ≤ outS s := by
  unfold outS
  rw [← List.countP_eq_length_filter, ← List.countP_eq_length_filter]
  apply List.countP_mono_left
  intro r _ hr
  cases hs : hasS s r with
  | false => rfl
  | true => rw [h r hs] at hr; simp at hr
theorem filter_lt {p q : Nat → Bool} : ∀ {l : List Nat}, (∀ r, q r = true → p r = true) → ∀ a, a ∈ l → p a = true → q a = false → (l.filter q).length < (l.filter p).length
  | [], _, a, ha, _, _ => by simp at ha
  | b :: l, h, a, ha, hp, hq => by
    have hle : (l.filter q).length ≤ (l.filter p).length := by
      rw [← List.countP_eq_length_filter, ← List.countP_eq_length_filter]
      exact List.countP_mono_left (fun r _ hr => h r hr)
    rcases List.mem_cons.1 ha with rfl | hm
    · simp [hp, hq]
      omega
    · have ih := filter_lt h a hm hp hq
      simp only [List.filter_cons]
      cases hqb : q b with
      | false => cases hpb : p b <;> simp <;> omega
      | true => simp [h b hqb]; exact ih
theorem outS_lt {s t : Nat → Nat} (h : ∀ r, hasS s r = true → hasS t r = true) (a : Nat) (ha : a < 1024) (hs : hasS s a = false) (ht : hasS t a = true) : outS t < outS s := by
  unfold outS
  refine filter_lt (p := fun r => !hasS s r) (q := fun r => !hasS t r) (fun r hr => ?_) a (by simpa using ha) (by simp [hs]) (by simp [ht])
  cases hh : hasS s r with
  | false => rfl
  | true => simp [h r hh] at hr
/-- Words that differ differ in a register. -/
theorem word_diff {s t : Nat → Nat} (hs : okS s) (ht : okS t) {i : Nat} (hi : i < 16) (hne : s i ≠ t i) : ∃ a, a < 1024 ∧ hasS s a ≠ hasS t a := by
  apply Classical.byContradiction
  intro hno
  apply hne
  apply Nat.eq_of_testBit_eq
  intro j
  by_cases hj : j < 64
  · apply Classical.byContradiction
    intro hd
    apply hno
    refine ⟨i * 64 + j, by omega, ?_⟩
    unfold hasS
    rw [show (i * 64 + j) / 64 = i by omega, show (i * 64 + j) % 64 = j by omega]
    exact hd
  · rw [Nat.testBit_lt_two_pow, Nat.testBit_lt_two_pow]
    · exact Nat.lt_of_lt_of_le (ht i) (Nat.pow_le_pow_right (n := 2) (i := 64) (by decide) (by omega))
    · exact Nat.lt_of_lt_of_le (hs i) (Nat.pow_le_pow_right (n := 2) (i := 64) (by decide) (by omega))
theorem join_grows {s t : Nat → Nat} (hs : okS s) (ht : okS t) {i : Nat} (hi : i < 16) (hne : joinS s t i ≠ s i) : outS (joinS s t) < outS s := by
  obtain ⟨a, ha, hd⟩ := word_diff (hs.join ht) hs hi hne
  refine outS_lt (fun r hr => by rw [hasS_join, hr]; rfl) a ha ?_ ?_
  · cases h : hasS s a with
    | false => rfl
    | true => rw [hasS_join, h] at hd; simp at hd
  · cases h : hasS (joinS s t) a with
    | true => rfl
    | false =>
      rw [h] at hd
      rw [hasS_join] at h
      cases h2 : hasS s a with
      | false => rw [h2] at hd; exact absurd rfl hd
      | true => rw [h2] at h; simp at h
theorem hasS_congr {s t : Nat → Nat} (h : ∀ i, i < 16 → s i = t i) {r : Nat} (hr : r < 1024) : hasS s r = hasS t r := by
  unfold hasS
  rw [h _ (by omega)]

/-- The bits of a word, rising. -/
def bitsL (x : Nat) : List Nat := (List.range 64).filter (fun i => x.testBit i)
theorem low_bits (k m i : Nat) : (2 ^ k * (2 * m + 1)).testBit i = (decide (i = k) || (decide (k < i) && m.testBit (i - k - 1))) := by
  rw [Nat.mul_comm, Nat.testBit_mul_two_pow]
  by_cases h1 : k ≤ i
  · by_cases h2 : i = k
    · subst h2; simp [Nat.testBit_zero]
    · obtain ⟨j, rfl⟩ : ∃ j, i = k + (j + 1) := ⟨i - k - 1, by omega⟩
      simp only [h1, decide_true, Bool.true_and, h2, decide_false, Bool.false_or, show k + (j + 1) - k = j + 1 by omega, show k < k + (j + 1) by omega, show j + 1 - 1 = j by omega]
      rw [Nat.testBit_succ]
      congr 1
      omega
  · have h2 : i ≠ k := by omega
    simp [h1, h2]
    omega
theorem less_bits (k m i : Nat) : (2 ^ k * (2 * m + 1) - 1).testBit i = (decide (i < k) || (decide (k < i) && m.testBit (i - k - 1))) := by
  have hp : 0 < 2 ^ k := Nat.two_pow_pos k
  have e : 2 ^ k * (2 * m + 1) - 1 = 2 ^ k * (2 * m) + (2 ^ k - 1) := by
    rw [Nat.mul_add]
    omega
  rw [e, Nat.testBit_two_pow_mul_add _ (by omega), Nat.testBit_two_pow_sub_one]
  by_cases h1 : i < k
  · simp [h1]
  · simp only [h1, if_false, decide_false, Bool.false_or]
    by_cases h2 : i = k
    · subst h2
      simp [Nat.testBit_zero]
    · obtain ⟨j, rfl⟩ : ∃ j, i = k + (j + 1) := ⟨i - k - 1, by omega⟩
      simp only [show k + (j + 1) - k = j + 1 by omega, show k < k + (j + 1) by omega, show j + 1 - 1 = j by omega, decide_true, Bool.true_and]
      rw [Nat.testBit_succ]
      congr 1
      omega
theorem bits_next {x : Nat} (h0 : x ≠ 0) (h : x < 18446744073709551616) : bitsL x = Lib.ctz 64 x :: bitsL (x &&& (x - 1)) ∧ x &&& (x - 1) < x ∧ Lib.ctz 64 x < 64 := by
  obtain ⟨m, hm, hk⟩ := Lib.ctzFrom_spec 64 x (by omega) h
  have e : Lib.ctz 64 x = Lib.ctzFrom 64 x := by simp [Lib.ctz, h0]
  rw [e]
  generalize Lib.ctzFrom 64 x = k at hm hk
  have hlt : x &&& (x - 1) < x := by
    have := Nat.and_le_right (n := x) (m := x - 1)
    omega
  refine ⟨?_, hlt, hk⟩
  have b1 : ∀ i, x.testBit i = (decide (i = k) || (decide (k < i) && m.testBit (i - k - 1))) := fun i => by rw [hm]; exact low_bits k m i
  have b2 : ∀ i, (x &&& (x - 1)).testBit i = (decide (k < i) && m.testBit (i - k - 1)) := fun i => by
    rw [Nat.testBit_and, b1]
    have : (x - 1).testBit i = (decide (i < k) || (decide (k < i) && m.testBit (i - k - 1))) := by rw [hm]; exact less_bits k m i
    rw [this]
    by_cases h1 : k < i
    · simp [h1, show i ≠ k by omega, show ¬ i < k by omega]
    · by_cases h2 : i = k
      · subst h2; simp
      · simp [h1, h2]
  unfold bitsL
  have hr : List.range 64 = List.range k ++ k :: (List.range (63 - k)).map (fun j => j + (k + 1)) := by
    apply List.ext_getElem?
    intro i
    by_cases hi : i < 64
    · rw [List.getElem?_range hi]
      by_cases h1 : i < k
      · rw [List.getElem?_append_left (by simpa using h1), List.getElem?_range h1]
      · rw [List.getElem?_append_right (by simp; omega)]
        simp only [List.length_range]
        by_cases h2 : i = k
        · subst h2; simp
        · obtain ⟨j, rfl⟩ : ∃ j, i = k + (j + 1) := ⟨i - k - 1, by omega⟩
          rw [show k + (j + 1) - k = j + 1 by omega, List.getElem?_cons_succ, List.getElem?_map, List.getElem?_range (by omega)]
          simp; omega
    · rw [List.getElem?_eq_none (by simp; omega), List.getElem?_eq_none (by simp; omega)]
  rw [hr, List.filter_append, List.filter_append]
  have n1 : (List.range k).filter (fun i => x.testBit i) = [] := by
    rw [List.filter_eq_nil_iff]
    intro i hi
    have : i < k := by simpa using hi
    simp [b1, show i ≠ k by omega, show ¬ k < i by omega]
  have n2 : (List.range k).filter (fun i => (x &&& (x - 1)).testBit i) = [] := by
    rw [List.filter_eq_nil_iff]
    intro i hi
    have : i < k := by simpa using hi
    rw [b2]
    simp [show ¬ k < i by omega]
  rw [n1, n2, List.nil_append, List.nil_append, List.filter_cons_of_pos (by simp [b1]), List.filter_cons_of_neg (by rw [b2]; simp)]
  congr 1
  apply List.filter_congr
  intro i hi
  simp only [List.mem_map, List.mem_range] at hi
  obtain ⟨j, hj, rfl⟩ := hi
  rw [b1, b2]
  simp [show j + (k + 1) ≠ k by omega]
theorem bits_none : bitsL 0 = [] := by
  unfold bitsL
  rw [List.filter_eq_nil_iff]
  intro i _
  simp
/-- The registers of the first n words, rising. -/
def regsN (s : Nat → Nat) : Nat → List Nat
  | 0 => []
  | n + 1 => regsN s n ++ (bitsL (s n)).map (fun b => n * 64 + b)
theorem regsN_eq (s : Nat → Nat) : ∀ n, regsN s n = (List.range (n * 64)).filter (hasS s)
  | 0 => rfl
  | n + 1 => by
    have hr : List.range ((n + 1) * 64) = List.range (n * 64) ++ (List.range 64).map (fun b => n * 64 + b) := by
      rw [show (n + 1) * 64 = n * 64 + 64 by omega, List.range_add]
    rw [regsN, regsN_eq s n, hr, List.filter_append]
    congr 1
    rw [List.filter_map, bitsL]
    congr 1
    apply List.filter_congr
    intro b hb
    have hb' : b < 64 := by simpa using hb
    simp only [Function.comp, hasS]
    rw [show (n * 64 + b) / 64 = n by omega, show (n * 64 + b) % 64 = b by omega]
theorem filter_range_more {p : Nat → Bool} {m n : Nat} (hmn : m ≤ n) (h : ∀ r, p r = true → r < m) : (List.range n).filter p = (List.range m).filter p := by
  obtain ⟨d, rfl⟩ : ∃ d, n = m + d := ⟨n - m, by omega⟩
  rw [List.range_add, List.filter_append]
  have : ((List.range d).map (fun x => m + x)).filter p = [] := by
    rw [List.filter_eq_nil_iff]
    intro r hr hp
    have := h r hp
    simp only [List.mem_map, List.mem_range] at hr
    obtain ⟨j, _, rfl⟩ := hr
    omega
  rw [this, List.append_nil]
end Go.Proofs.YtajdnakpljgkpaaDoor
