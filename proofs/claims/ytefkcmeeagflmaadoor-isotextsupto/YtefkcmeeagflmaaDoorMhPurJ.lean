/-
  Where nothing is odd, texts that are the same are of heaps that are alike; pure.
-/
import Derived.Test.YtefkcmeeagflmaaDoorMhPurI
namespace Go.Proofs.YtefkcmeeagflmaaDoor
open Go.RowKit
set_option linter.unusedVariables false
set_option linter.unusedSimpArgs false

/-- In the same place. -/
def Pl (oa ob : List Int) (i j : Int) : Prop := ∃ k, idx oa i = some k ∧ idx ob j = some k
theorem Pl.mono {oa ob : List Int} (ta tb : List Int) : ∀ i j, Pl oa ob i j → Pl (oa ++ ta) (ob ++ tb) i j := fun i j ⟨k, h1, h2⟩ => ⟨k, idx_pre h1, idx_pre h2⟩
/-- A value that isn't odd. -/
def Ev (A : List (Int × List (Int × Int))) (p : Int × Int) : Prop := p.1 = 0 ∨ p = (1, 0) ∨ ∃ o, thingAt A p = some o
def Gd (A : List (Int × List (Int × Int))) (i : Int) : Prop := ∀ o, thingAt A (2, i) = some o → ∀ c, c ∈ o.2 → Ev A c
/-- No text goes on here. -/
def Dl (r : List UInt8) : Prop := ∀ c t, r = c :: t → c = 32 ∨ c = 93 ∨ c = 125
def De (r : List UInt8) : Prop := ∀ c t, r = c :: t → c = 93 ∨ c = 125
theorem Dl.nonN {r : List UInt8} (h : Dl r) : nonN r := fun c t e => nc_not (by rcases h c t e with h | h | h <;> simp [h])
theorem De.dl {r : List UInt8} (h : De r) : Dl r := fun c t e => .inr (h c t e)

/-- What is read. -/
structure Rd (A B : List (Int × List (Int × Int))) (oa ob oa' ob' : List Int) : Prop where
  len : oa'.length = ob'.length
  al : ∀ (k : Nat) (i j : Int), oa.length ≤ k → oa'[k]? = some i → ob'[k]? = some j → ∃ a b, thingAt A (2, i) = some a ∧ thingAt B (2, j) = some b ∧ a.1 = b.1 ∧ OkL A B (Pl oa' ob') a.2 b.2
theorem Rd.same {A B : List (Int × List (Int × Int))} {oa ob : List Int} (h : oa.length = ob.length) : Rd A B oa ob oa ob := ⟨h, fun k i j hk hi => by have := (List.getElem?_eq_some_iff.1 hi).1; omega⟩
theorem Rd.trans {A B : List (Int × List (Int × Int))} {oa ob oa1 ob1 ta tb : List Int} (h : Rd A B oa ob oa1 ob1) (h' : Rd A B oa1 ob1 (oa1 ++ ta) (ob1 ++ tb)) : Rd A B oa ob (oa1 ++ ta) (ob1 ++ tb) := by
  refine ⟨h'.len, fun k i j hk hi hj => ?_⟩
  by_cases hlt : k < oa1.length
  · have hlt2 : k < ob1.length := by rw [← h.len]; exact hlt
    rw [List.getElem?_append_left hlt] at hi
    rw [List.getElem?_append_left hlt2] at hj
    obtain ⟨a, b, h1, h2, h3, h4⟩ := h.al k i j hk hi hj
    exact ⟨a, b, h1, h2, h3, h4.mono (Pl.mono ta tb)⟩
  · exact h'.al k i j (by omega) hi hj

theorem val_head (A : List (Int × List (Int × Int))) (n : Nat) (v : Int × Int) (out : List Int) : ∃ c t, (valR A (n + 1) v out).1 = c :: t ∧ c ≠ 93 ∧ c ≠ 125 ∧ c ≠ 32 := by
  rw [valR]
  split
  · unfold plainB
    split
    · obtain ⟨c, t, h, hc⟩ := itoa_head v.2
      refine ⟨c, t, h, ?_, ?_, ?_⟩ <;> rintro rfl <;> exact absurd hc (nc_not (by simp))
    · split
      · exact ⟨110, _, rfl, by decide, by decide, by decide⟩
      · exact ⟨63, _, rfl, by decide, by decide, by decide⟩
  · split
    · exact ⟨64, _, rfl, by decide, by decide, by decide⟩
    · exact ⟨64, _, rfl, by decide, by decide, by decide⟩

theorem lst_dl (f : Int × Int → List Int → List UInt8 × List Int) (x : List (Int × Int)) (out : List Int) {e : List UInt8} (h : De e) : Dl ((lstR f [32] x out).1 ++ e) := by
  cases x with
  | nil => rw [lstR]; exact h.dl
  | cons v r =>
    intro c t hc
    rw [lstR] at hc
    simp at hc
    exact .inl hc.1.symm

theorem lst_read {A B : List (Int × List (Int × Int))} {n : Nat}
    (hv : ∀ (p q : Int × Int) (oa ob : List Int) (ra rb : List UInt8), oa.length = ob.length → Dl ra → Dl rb → Ev A p → Ev B q → (∀ i, i ∈ (valR A (n + 1) p oa).2 → Gd A i) → (∀ i, i ∈ (valR B (n + 1) q ob).2 → Gd B i) → lft (fun _ => 1) A oa < n + 1 → lft (fun _ => 1) B ob < n + 1 → (valR A (n + 1) p oa).1 ++ ra = (valR B (n + 1) q ob).1 ++ rb → ra = rb ∧ Rd A B oa ob (valR A (n + 1) p oa).2 (valR B (n + 1) q ob).2 ∧ OkV A B (Pl (valR A (n + 1) p oa).2 (valR B (n + 1) q ob).2) p q) :
    ∀ (x y : List (Int × Int)) (s : List UInt8) (oa ob : List Int) (ea eb : List UInt8), oa.length = ob.length → (s = [] ∨ s = [32]) → De ea → De eb → (∀ c, c ∈ x → Ev A c) → (∀ c, c ∈ y → Ev B c) → (∀ i, i ∈ (lstR (valR A (n + 1)) s x oa).2 → Gd A i) → (∀ i, i ∈ (lstR (valR B (n + 1)) s y ob).2 → Gd B i) → lft (fun _ => 1) A oa < n + 1 → lft (fun _ => 1) B ob < n + 1 → (lstR (valR A (n + 1)) s x oa).1 ++ ea = (lstR (valR B (n + 1)) s y ob).1 ++ eb →
      ea = eb ∧ Rd A B oa ob (lstR (valR A (n + 1)) s x oa).2 (lstR (valR B (n + 1)) s y ob).2 ∧ OkL A B (Pl (lstR (valR A (n + 1)) s x oa).2 (lstR (valR B (n + 1)) s y ob).2) x y
  | [], [], s, oa, ob, ea, eb, hl, _, _, _, _, _, _, _, _, _, h => ⟨h, Rd.same hl, trivial⟩
  | [], q :: y, s, oa, ob, ea, eb, hl, hs, h1, h2, _, _, _, _, _, _, h => by
    obtain ⟨c, t, hc, c1, c2, c3⟩ := val_head B n q ob
    rw [lstR, lstR] at h
    simp only [List.nil_append] at h
    rcases hs with rfl | rfl
    · rw [hc] at h
      simp only [List.nil_append, List.cons_append, List.append_assoc] at h
      rcases h1 _ _ h with h' | h'
      · exact absurd h' c1
      · exact absurd h' c2
    · simp only [List.nil_append, List.cons_append, List.append_assoc] at h
      rcases h1 _ _ h with h' | h' <;> exact absurd h' (by decide)
  | p :: x, [], s, oa, ob, ea, eb, hl, hs, h1, h2, _, _, _, _, _, _, h => by
    obtain ⟨c, t, hc, c1, c2, c3⟩ := val_head A n p oa
    rw [lstR, lstR] at h
    simp only [List.nil_append] at h
    rcases hs with rfl | rfl
    · rw [hc] at h
      simp only [List.nil_append, List.cons_append, List.append_assoc] at h
      rcases h2 _ _ h.symm with h' | h'
      · exact absurd h' c1
      · exact absurd h' c2
    · simp only [List.nil_append, List.cons_append, List.append_assoc] at h
      rcases h2 _ _ h.symm with h' | h' <;> exact absurd h' (by decide)
  | p :: x, q :: y, s, oa, ob, ea, eb, hl, hs, h1, h2, ex, ey, ga, gb, fa, fb, h => by
    rw [lstR, lstR] at h
    simp only [List.append_assoc] at h
    have h := List.append_cancel_left h
    obtain ⟨ta, hta⟩ := lst_pre (val_pre A (n + 1)) [32] x (valR A (n + 1) p oa).2
    obtain ⟨tb, htb⟩ := lst_pre (val_pre B (n + 1)) [32] y (valR B (n + 1) q ob).2
    rw [lstR] at ga gb ⊢
    simp only at ga gb ⊢
    rw [lstR]
    simp only
    obtain ⟨k1, k2, k3⟩ := hv p q oa ob _ _ hl (lst_dl _ x _ h1) (lst_dl _ y _ h2) (ex p (by simp)) (ey q (by simp)) (fun i hi => ga i (by rw [hta]; simp [hi])) (fun i hi => gb i (by rw [htb]; simp [hi])) fa fb h
    obtain ⟨ua, hua⟩ := val_pre A (n + 1) p oa
    obtain ⟨ub, hub⟩ := val_pre B (n + 1) q ob
    obtain ⟨m1, m2, m3⟩ := lst_read hv x y [32] (valR A (n + 1) p oa).2 (valR B (n + 1) q ob).2 ea eb k2.len (.inr rfl) h1 h2 (fun c hc => ex c (by simp [hc])) (fun c hc => ey c (by simp [hc])) ga gb (by rw [hua]; exact Nat.lt_of_le_of_lt (lft_app _ _ _ _) fa) (by rw [hub]; exact Nat.lt_of_le_of_lt (lft_app _ _ _ _) fb) k1
    refine ⟨m1, ?_, ?_, m3⟩
    · rw [hta, htb] at m2 ⊢
      exact k2.trans m2
    · rw [hta, htb]
      exact k3.mono (Pl.mono ta tb)
end Go.Proofs.YtefkcmeeagflmaaDoor
