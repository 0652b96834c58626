/-
  act at any call: both heaps answer alike, and stand alike behind it; lists that are handed in lie below both heaps.
-/
import Derived.Test.YtndjoklinccfjaaActsJ
namespace Go.Proofs.Ytndjoklinccfjaa
open Go.RowKit

/-- Both heaps, with things of at most ten million cells. -/
def JJ (w : World) (B b r : Nat) (lim : Int) (N : Nat) : Prop := ∃ used rk rn sv sr T U, JI w B b r lim used rk rn sv sr T U ∧ (∀ t, t ∈ T → t.cells.length ≤ 10000000) ∧ T.length ≤ N

theorem fieldTrap_got {O : List (Int × List (Int × Int))} {k n r a : Int} (h : fieldTrap O k n r a = 0) : k = 2 ∧ 0 ≤ n ∧ ∃ o, O[n.toNat]? = some o ∧ 0 ≤ r ∧ o.1 = r ∧ 0 ≤ a ∧ a < o.2.length := by
  unfold fieldTrap at h
  split at h
  · simp at h
  · split at h
    · rename_i h2
      split at h
      · rename_i o ho
        split at h
        · rename_i h3
          exact ⟨h2.1, h2.2, o, ho, h3.1, h3.2.1, h3.2.2.1, h3.2.2.2⟩
        · simp at h
      · simp at h
    · simp at h

theorem arrTrap_got {O : List (Int × List (Int × Int))} {k n : Int} (h : arrTrap O k n = 0) : k = 2 ∧ 0 ≤ n ∧ ∃ o, O[n.toNat]? = some o ∧ o.1 < 0 := by
  unfold arrTrap at h
  split at h
  · simp at h
  · split at h
    · rename_i h2
      split at h
      · rename_i o ho
        split at h
        · rename_i h3
          exact ⟨h2.1, h2.2, o, ho, h3⟩
        · simp at h
      · simp at h
    · simp at h

theorem elemTrap_got {O : List (Int × List (Int × Int))} {k n ak an : Int} (h : elemTrap O k n ak an = 0) : k = 2 ∧ 0 ≤ n ∧ ∃ o, O[n.toNat]? = some o ∧ o.1 < 0 ∧ ak = 0 ∧ 0 ≤ an ∧ an < o.2.length := by
  unfold elemTrap at h
  split at h
  · simp at h
  · split at h
    · rename_i h2
      split at h
      · rename_i o ho
        split at h
        · rename_i h3
          split at h
          · rename_i h4
            split at h
            · rename_i h5
              exact ⟨h2.1, h2.2, o, ho, h3, h4, h5.1, h5.2⟩
            · simp at h
          · simp at h
        · simp at h
      · simp at h
    · simp at h

theorem abs_at {T : List Thing} {i : Nat} {o : Int × List (Int × Int)} (h : (T.map Thing.abs)[i]? = some o) : ∃ t, T[i]? = some t ∧ t.sort = o.1 ∧ t.cells = o.2 := by
  rw [List.getElem?_map] at h
  cases ht : T[i]? with
  | none => rw [ht] at h; simp at h
  | some t => rw [ht] at h; simp at h; subst h; exact ⟨t, rfl, rfl, rfl⟩

theorem bound_set {T : List Thing} (hb : ∀ t, t ∈ T → t.cells.length ≤ 10000000) {i : Nat} {t : Thing} (ht : T[i]? = some t) (a : Nat) (x : Int × Int) : ∀ t', t' ∈ T.set i (t.put a x) → t'.cells.length ≤ 10000000 := by
  intro t' ht'
  rcases mem_set_or ht' with h | rfl
  · exact hb t' h
  · have := hb t (List.mem_of_getElem? ht)
    simpa [Thing.put] using this

theorem bound_push {T : List Thing} (hb : ∀ t, t ∈ T → t.cells.length ≤ 10000000) {t : Thing} (ht : t.cells.length ≤ 10000000) : ∀ t', t' ∈ T ++ [t] → t'.cells.length ≤ 10000000 := by
  intro t' ht'
  rcases List.mem_append.1 ht' with h | h
  · exact hb t' h
  · simp at h; subst h; exact ht

theorem act_any {w : World} {B b r : Nat} {lim : Int} {N : Nat} (H : JJ w B b r lim N) (hN : N ≤ 1000000000000) (d vk vn wk wn xk xn rec n : Int) {xs : List (Int × Int)} {a : Option Addr} {m c : Nat} (hx : Src B w a m c xs) (hm : m ≤ 10000000) :
    Calls Try.prog 11 #[.pointer (some ⟨b, 0, none⟩), .pointer (some ⟨r, 0, none⟩), actVal d vk vn wk wn xk xn rec n (.slice a m c)] w fun e w' => e = .returned (.bool true) ∧ JJ w' B b r lim (N + 1) ∧ Below B w w' := by
  obtain ⟨used, rk, rn, sv, sr, T, U, J, hb, hT⟩ := H
  have hT' : T.length ≤ 1000000000000 := by omega
  have stay : ∀ {w' : World} {used' rk' rn' : Int}, JI w' B b r lim used' rk' rn' sv sr T U → JJ w' B b r lim (N + 1) := fun h => ⟨_, _, _, _, _, _, _, h, hb, by omega⟩
  have push : ∀ {w' : World} {used' rk' rn' : Int} {sv' sr' : Value} {t : Thing} {u : RT}, JI w' B b r lim used' rk' rn' sv' sr' (T ++ [t]) (U ++ [u]) → t.cells.length ≤ 10000000 → JJ w' B b r lim (N + 1) := fun h ht => ⟨_, _, _, _, _, _, _, h, bound_push hb ht, by simp; omega⟩
  have put : ∀ {w' : World} {i : Nat} {t : Thing} {a : Nat} {x : Int × Int} {U' : List RT}, T[i]? = some t → JI w' B b r lim used rk rn sv sr (T.set i (t.put a x)) U' → JJ w' B b r lim (N + 1) := fun ht h => ⟨_, _, _, _, _, _, _, h, bound_set hb ht _ _, by simp; omega⟩
  by_cases hd : d < 0 ∨ 9 < d
  · by_cases h : bad T vk vn
    · exact (act_obj_bad J d vk vn wk wn xk xn rec n _ hd h).mono fun e w' ⟨h1, h2, h3⟩ => ⟨h1, stay h2, h3⟩
    · unfold bad at h
      obtain ⟨rfl, h1, h2⟩ := Decidable.not_not.1 h
      obtain ⟨i, rfl⟩ := Int.eq_ofNat_of_zero_le h1
      have hi : i < T.length := by omega
      exact (act_obj_ok J d wk wn xk xn rec n _ hd i T[i] (List.getElem?_eq_getElem hi) (hb _ (List.getElem_mem hi))).mono fun e w' ⟨h1, h2, h3⟩ => ⟨h1, stay h2, h3⟩
  have hd' : d = 0 ∨ d = 1 ∨ d = 2 ∨ d = 3 ∨ d = 4 ∨ d = 5 ∨ d = 6 ∨ d = 7 ∨ d = 8 ∨ d = 9 := by omega
  clear hd
  rcases hd' with rfl | rfl | rfl | rfl | rfl | rfl | rfl | rfl | rfl | rfl
  · by_cases h : rec < 0 ∨ n < 0 ∨ 1000 < n
    · exact (act_rec_type J vk vn wk wn xk xn rec n _ h).mono fun e w' ⟨h1, h2, h3⟩ => ⟨h1, stay h2, h3⟩
    · by_cases hc : 1 + n ≤ lim - used
      · exact (act_rec_ok J vk vn wk wn xk xn rec n _ (by omega) (by omega) (by omega) hc hT').mono fun e w' ⟨h1, sv', sr', t, u, h2, h4, h3⟩ => ⟨h1, push h2 h4.out, h3⟩
      · exact (act_rec_no J vk vn wk wn xk xn rec n _ (by omega) (by omega) (by omega) (by omega)).mono fun e w' ⟨h1, h2, h3⟩ => ⟨h1, stay h2, h3⟩
  · by_cases h : arrMake lim used vk vn = 0
    · unfold arrMake at h
      split at h
      · rename_i hk
        subst hk
        split at h
        · simp at h
        · split at h
          · simp at h
          · exact (act_arr_ok J vn wk wn xk xn rec n _ (by omega) (by omega) hT').mono fun e w' ⟨h1, sv', sr', t, u, h2, h4, h3⟩ => ⟨h1, push h2 h4.out, h3⟩
      · simp at h
    · exact (act_arr_no J vk vn wk wn xk xn rec n _ h).mono fun e w' ⟨h1, h2, h3⟩ => ⟨h1, stay h2, h3⟩
  · exact (act_lay J vk vn wk wn xk xn rec n hx hm hT').mono fun e w' ⟨h1, sv', sr', t, u, h2, h4, h3⟩ => ⟨h1, push h2 (by rw [h4, hx.len]; exact hm), h3⟩
  · by_cases h : n < 0
    · exact (act_charge_neg J vk vn wk wn xk xn rec n _ h).mono fun e w' ⟨h1, h2, h3⟩ => ⟨h1, stay h2, h3⟩
    · by_cases hc : n ≤ lim - used
      · exact (act_charge_yes J vk vn wk wn xk xn rec n _ (by omega) hc).mono fun e w' ⟨h1, h2, h3⟩ => ⟨h1, stay h2, h3⟩
      · exact (act_charge_no J vk vn wk wn xk xn rec n _ (by omega) (by omega)).mono fun e w' ⟨h1, h2, h3⟩ => ⟨h1, stay h2, h3⟩
  · by_cases h : fieldTrap (T.map Thing.abs) vk vn rec n = 0
    · obtain ⟨rfl, h0, o, ho, h1, h2, h3, h4⟩ := fieldTrap_got h
      obtain ⟨i, rfl⟩ := Int.eq_ofNat_of_zero_le h0
      obtain ⟨j, rfl⟩ := Int.eq_ofNat_of_zero_le h3
      obtain ⟨t, ht, hs, hc⟩ := abs_at ho
      simp at ht
      have hj : j < t.cells.length := by rw [hc]; omega
      obtain rfl : rec = t.sort := by omega
      exact (act_field_ok J wk wn xk xn _ i j t ht h1 _ (List.getElem?_eq_getElem hj)).mono fun e w' ⟨h1, h2, h3⟩ => ⟨h1, stay h2, h3⟩
    · exact (act_field_no J vk vn wk wn xk xn rec n _ h).mono fun e w' ⟨h1, h2, h3⟩ => ⟨h1, stay h2, h3⟩
  · by_cases h : fieldTrap (T.map Thing.abs) vk vn rec n = 0
    · obtain ⟨rfl, h0, o, ho, h1, h2, h3, h4⟩ := fieldTrap_got h
      obtain ⟨i, rfl⟩ := Int.eq_ofNat_of_zero_le h0
      obtain ⟨j, rfl⟩ := Int.eq_ofNat_of_zero_le h3
      obtain ⟨t, ht, hs, hc⟩ := abs_at ho
      simp at ht
      have hj : j < t.cells.length := by rw [hc]; omega
      obtain rfl : rec = t.sort := by omega
      exact (act_setfield_ok J wk wn xk xn _ i j t ht h1 hj).mono fun e w' ⟨h1, u, hu, h2, h3⟩ => ⟨h1, put ht h2, h3⟩
    · exact (act_setfield_no J vk vn wk wn xk xn rec n _ h).mono fun e w' ⟨h1, h2, h3⟩ => ⟨h1, stay h2, h3⟩
  · by_cases h : elemTrap (T.map Thing.abs) vk vn wk wn = 0
    · obtain ⟨rfl, h0, o, ho, h1, rfl, h3, h4⟩ := elemTrap_got h
      obtain ⟨i, rfl⟩ := Int.eq_ofNat_of_zero_le h0
      obtain ⟨j, rfl⟩ := Int.eq_ofNat_of_zero_le h3
      obtain ⟨t, ht, hs, hc⟩ := abs_at ho
      simp at ht
      have hj : j < t.cells.length := by rw [hc]; omega
      exact (act_elem_ok J xk xn rec n _ i j t ht (by omega) _ (List.getElem?_eq_getElem hj)).mono fun e w' ⟨h1, h2, h3⟩ => ⟨h1, stay h2, h3⟩
    · exact (act_elem_no J vk vn wk wn xk xn rec n _ h).mono fun e w' ⟨h1, h2, h3⟩ => ⟨h1, stay h2, h3⟩
  · by_cases h : elemTrap (T.map Thing.abs) vk vn wk wn = 0
    · obtain ⟨rfl, h0, o, ho, h1, rfl, h3, h4⟩ := elemTrap_got h
      obtain ⟨i, rfl⟩ := Int.eq_ofNat_of_zero_le h0
      obtain ⟨j, rfl⟩ := Int.eq_ofNat_of_zero_le h3
      obtain ⟨t, ht, hs, hc⟩ := abs_at ho
      simp at ht
      have hj : j < t.cells.length := by rw [hc]; omega
      exact (act_setelem_ok J xk xn rec n _ i j t ht (by omega) hj).mono fun e w' ⟨h1, u, hu, h2, h3⟩ => ⟨h1, put ht h2, h3⟩
    · exact (act_setelem_no J vk vn wk wn xk xn rec n _ h).mono fun e w' ⟨h1, h2, h3⟩ => ⟨h1, stay h2, h3⟩
  · by_cases h : arrTrap (T.map Thing.abs) vk vn = 0
    · obtain ⟨rfl, h0, o, ho, h1⟩ := arrTrap_got h
      obtain ⟨i, rfl⟩ := Int.eq_ofNat_of_zero_le h0
      obtain ⟨t, ht, hs, hc⟩ := abs_at ho
      simp at ht
      exact (act_len_ok J wk wn xk xn rec n _ i t ht (by omega)).mono fun e w' ⟨h1, h2, h3⟩ => ⟨h1, stay h2, h3⟩
    · exact (act_len_no J vk vn wk wn xk xn rec n _ h).mono fun e w' ⟨h1, h2, h3⟩ => ⟨h1, stay h2, h3⟩
  · exact (act_setroot J vk vn wk wn xk xn rec n _).mono fun e w' ⟨h1, h2, h3⟩ => ⟨h1, stay h2, h3⟩
end Go.Proofs.Ytndjoklinccfjaa
