/-
  A value's text is read back; equal texts, where nothing is odd, tell heaps that are alike; pure.
-/
import Derived.Test.YtefkcmeeagflmaaDoorMhPurJ
namespace Go.Proofs.YtefkcmeeagflmaaDoor
open Go.RowKit
set_option linter.unusedVariables false
set_option linter.unusedSimpArgs false

/-- Sorts as they are laid. -/
def Ls (A : List (Int × List (Int × Int))) : Prop := ∀ p o, thingAt A p = some o → o.1 = -1 ∨ 0 ≤ o.1

theorem opn_nonN (r : Int) (t : List UInt8) : nonN (opn r ++ t) := by
  intro c u h
  unfold opn at h
  split at h
  · simp at h
    exact nc_not (by simp [← h.1])
  · simp at h
    exact nc_not (by simp [← h.1])

/-- A value's text, by its kind. -/
theorem val_kind {A : List (Int × List (Int × Int))} {n : Nat} {p : Int × Int} {oa : List Int} (h : Ev A p) :
    (p.1 = 0 ∧ thingAt A p = none ∧ valR A (n + 1) p oa = (Lib.itoa p.2, oa)) ∨ (p = (1, 0) ∧ thingAt A p = none ∧ valR A (n + 1) p oa = ([110, 117, 108, 108], oa)) ∨
    (∃ o, thingAt A p = some o ∧ ((∃ k, idx oa p.2 = some k ∧ valR A (n + 1) p oa = (64 :: Lib.itoa k, oa)) ∨ (idx oa p.2 = none ∧ valR A (n + 1) p oa = (64 :: Lib.itoa oa.length ++ opn o.1 ++ (lstR (valR A n) (sep0 o.1) o.2 (oa ++ [p.2])).1 ++ cls o.1, (lstR (valR A n) (sep0 o.1) o.2 (oa ++ [p.2])).2)))) := by
  rcases h with h | h | ⟨o, h⟩
  · have ht : thingAt A p = none := thing_ne (by omega)
    refine .inl ⟨h, ht, ?_⟩
    rw [valR, ht]
    simp [plainB, h]
  · subst h
    have ht : thingAt A (1, 0) = none := thing_ne (by decide)
    refine .inr (.inl ⟨rfl, ht, ?_⟩)
    rw [valR, ht]
    simp [plainB]
  · refine .inr (.inr ⟨o, h, ?_⟩)
    cases hi : idx oa p.2 with
    | some k => exact .inl ⟨k, rfl, by rw [valR, h]; simp only [hi]⟩
    | none => exact .inr ⟨rfl, by rw [valR, h]; simp only [hi]⟩

theorem lst_zero {A : List (Int × List (Int × Int))} {n : Nat} {oa : List Int} (h : lft (fun _ => 1) A oa < n) : ∃ m, n = m + 1 := ⟨n - 1, by omega⟩

theorem itoa_first {n : Int} {r t : List UInt8} {c : UInt8} (h : Lib.itoa n ++ r = c :: t) : nc c := by
  obtain ⟨d, u, hd, hc⟩ := itoa_head n
  rw [hd] at h
  injection h with h _
  rw [← h]
  exact hc

/-- A value's text can be read back. -/
def RdV (A B : List (Int × List (Int × Int))) (n : Nat) : Prop := ∀ (p q : Int × Int) (oa ob : List Int) (ra rb : List UInt8), oa.length = ob.length → Dl ra → Dl rb → Ev A p → Ev B q → (∀ i, i ∈ (valR A (n + 1) p oa).2 → Gd A i) → (∀ i, i ∈ (valR B (n + 1) q ob).2 → Gd B i) → lft (fun _ => 1) A oa < n + 1 → lft (fun _ => 1) B ob < n + 1 → (valR A (n + 1) p oa).1 ++ ra = (valR B (n + 1) q ob).1 ++ rb → ra = rb ∧ Rd A B oa ob (valR A (n + 1) p oa).2 (valR B (n + 1) q ob).2 ∧ OkV A B (Pl (valR A (n + 1) p oa).2 (valR B (n + 1) q ob).2) p q

theorem new_read {A B : List (Int × List (Int × Int))} (hA : Ls A) (hB : Ls B) {n : Nat} (H : RdV A B n) {p q : Int × Int} {a b : Int × List (Int × Int)} {oa ob : List Int} {ra rb : List UInt8} (hl : oa.length = ob.length) (da : Dl ra) (db : Dl rb) (pt : thingAt A p = some a) (qt : thingAt B q = some b) (pi : idx oa p.2 = none) (qi : idx ob q.2 = none)
    (ga : ∀ i, i ∈ (lstR (valR A (n + 1)) (sep0 a.1) a.2 (oa ++ [p.2])).2 → Gd A i) (gb : ∀ i, i ∈ (lstR (valR B (n + 1)) (sep0 b.1) b.2 (ob ++ [q.2])).2 → Gd B i) (fa : lft (fun _ => 1) A oa < n + 2) (fb : lft (fun _ => 1) B ob < n + 2)
    (h : opn a.1 ++ ((lstR (valR A (n + 1)) (sep0 a.1) a.2 (oa ++ [p.2])).1 ++ (cls a.1 ++ ra)) = opn b.1 ++ ((lstR (valR B (n + 1)) (sep0 b.1) b.2 (ob ++ [q.2])).1 ++ (cls b.1 ++ rb))) :
    ra = rb ∧ Rd A B oa ob (lstR (valR A (n + 1)) (sep0 a.1) a.2 (oa ++ [p.2])).2 (lstR (valR B (n + 1)) (sep0 b.1) b.2 (ob ++ [q.2])).2 ∧ Pl (lstR (valR A (n + 1)) (sep0 a.1) a.2 (oa ++ [p.2])).2 (lstR (valR B (n + 1)) (sep0 b.1) b.2 (ob ++ [q.2])).2 p.2 q.2 := by
  have dec : ∀ (r : Int) (t : List UInt8), De (cls r ++ t) := fun r t c u e => by
    unfold cls at e
    split at e
    · simp at e; exact .inl e.1.symm
    · simp at e; exact .inr e.1.symm
  have key : a.1 = b.1 ∧ (lstR (valR A (n + 1)) (sep0 a.1) a.2 (oa ++ [p.2])).1 ++ (cls a.1 ++ ra) = (lstR (valR B (n + 1)) (sep0 b.1) b.2 (ob ++ [q.2])).1 ++ (cls b.1 ++ rb) := by
    by_cases h1 : a.1 < 0
    · by_cases h2 : b.1 < 0
      · have e1 := hA _ _ pt
        have e2 := hB _ _ qt
        refine ⟨by omega, ?_⟩
        have e3 : opn a.1 = opn b.1 := by unfold opn; rw [if_pos h1, if_pos h2]
        rw [e3] at h
        exact List.append_cancel_left h
      · have e3 : opn a.1 = [91] := by unfold opn; rw [if_pos h1]
        have e4 : opn b.1 = 123 :: Lib.itoa b.1 := by unfold opn; rw [if_neg h2]
        rw [e3, e4] at h
        simp at h
    · by_cases h2 : b.1 < 0
      · have e3 : opn b.1 = [91] := by unfold opn; rw [if_pos h2]
        have e4 : opn a.1 = 123 :: Lib.itoa a.1 := by unfold opn; rw [if_neg h1]
        rw [e3, e4] at h
        simp at h
      · have e3 : opn a.1 = 123 :: Lib.itoa a.1 := by unfold opn; rw [if_neg h1]
        have e4 : opn b.1 = 123 :: Lib.itoa b.1 := by unfold opn; rw [if_neg h2]
        rw [e3, e4] at h
        injection h with _ h
        have s1 : sep0 a.1 = [32] := by unfold sep0; rw [if_neg h1]
        have s2 : sep0 b.1 = [32] := by unfold sep0; rw [if_neg h2]
        obtain ⟨h3, h4⟩ := cutN (by rw [s1]; exact (lst_dl _ _ _ (dec _ _)).nonN) (by rw [s2]; exact (lst_dl _ _ _ (dec _ _)).nonN) h
        exact ⟨h3, h4⟩
  obtain ⟨hab, h⟩ := key
  have f1 := lft_one (fun _ => 1) pt pi
  have f2 := lft_one (fun _ => 1) qt qi
  obtain ⟨ta, hta⟩ := lst_pre (val_pre A (n + 1)) (sep0 a.1) a.2 (oa ++ [p.2])
  obtain ⟨tb, htb⟩ := lst_pre (val_pre B (n + 1)) (sep0 b.1) b.2 (ob ++ [q.2])
  have ea : ∀ c, c ∈ a.2 → Ev A c := ga p.2 (by rw [hta]; simp) a (by rw [← thing_two pt]; exact pt)
  have eb : ∀ c, c ∈ b.2 → Ev B c := gb q.2 (by rw [htb]; simp) b (by rw [← thing_two qt]; exact qt)
  have hss : sep0 a.1 = [] ∨ sep0 a.1 = [32] := by unfold sep0; split <;> simp
  rw [← hab] at h gb htb ⊢
  obtain ⟨k1, k2, k3⟩ := lst_read H a.2 b.2 (sep0 a.1) (oa ++ [p.2]) (ob ++ [q.2]) _ _ (by simp [hl]) hss (dec _ _) (dec _ _) ea eb ga gb (by omega) (by omega) h
  have hip : idx (oa ++ [p.2]) p.2 = some oa.length := by rw [idx_one, pi]; simp
  have hiq : idx (ob ++ [q.2]) q.2 = some oa.length := by rw [idx_one, qi, hl]; simp
  refine ⟨List.append_cancel_left k1, ⟨k2.len, fun k i j hk hi hj => ?_⟩, ?_⟩
  · by_cases hkk : k = oa.length
    · subst hkk
      have e1 : (lstR (valR A (n + 1)) (sep0 a.1) a.2 (oa ++ [p.2])).2[oa.length]? = some p.2 := by rw [hta, List.append_assoc, List.getElem?_append_right (Nat.le_refl _)]; simp
      have e2 : (lstR (valR B (n + 1)) (sep0 a.1) b.2 (ob ++ [q.2])).2[oa.length]? = some q.2 := by rw [htb, hl, List.append_assoc, List.getElem?_append_right (Nat.le_refl _)]; simp
      rw [e1] at hi
      rw [e2] at hj
      injection hi with hi
      injection hj with hj
      subst hi hj
      exact ⟨a, b, by rw [← thing_two pt]; exact pt, by rw [← thing_two qt]; exact qt, hab, k3⟩
    · exact k2.al k i j (by simp; omega) hi hj
  · exact ⟨oa.length, by rw [hta]; exact idx_pre hip, by rw [htb]; exact idx_pre hiq⟩

theorem val_step {A B : List (Int × List (Int × Int))} (hA : Ls A) (hB : Ls B) (n : Nat) (H : ∀ m, n = m + 1 → RdV A B m) : RdV A B n := by
  intro p q oa ob ra rb hl da db ep eq ga gb fa fb h
  rcases val_kind (n := n) (oa := oa) ep with ⟨p0, pt, pv⟩ | ⟨p1, pt, pv⟩ | ⟨a, pt, pk⟩
  · rcases val_kind (n := n) (oa := ob) eq with ⟨q0, qt, qv⟩ | ⟨q1, qt, qv⟩ | ⟨b, qt, qk⟩
    · rw [pv, qv] at h ⊢
      obtain ⟨h1, h2⟩ := cutN da.nonN db.nonN h
      refine ⟨h2, Rd.same hl, ?_⟩
      unfold OkV
      rw [pt, qt]
      show p = q
      exact Prod.ext (p0.trans q0.symm) h1
    · rw [pv, qv] at h
      exact absurd (itoa_first h) (nc_not (by simp))
    · rw [pv] at h
      rcases qk with ⟨k, _, qv⟩ | ⟨_, qv⟩ <;> rw [qv] at h <;> exact absurd (itoa_first h) (nc_not (by simp))
  · rcases val_kind (n := n) (oa := ob) eq with ⟨q0, qt, qv⟩ | ⟨q1, qt, qv⟩ | ⟨b, qt, qk⟩
    · rw [pv, qv] at h
      exact absurd (itoa_first h.symm) (nc_not (by simp))
    · rw [pv, qv] at h ⊢
      refine ⟨List.append_cancel_left h, Rd.same hl, ?_⟩
      unfold OkV
      rw [pt, qt]
      exact p1.trans q1.symm
    · rw [pv] at h
      rcases qk with ⟨k, _, qv⟩ | ⟨_, qv⟩ <;> rw [qv] at h <;> simp at h
  · rcases val_kind (n := n) (oa := ob) eq with ⟨q0, qt, qv⟩ | ⟨q1, qt, qv⟩ | ⟨b, qt, qk⟩
    · rw [qv] at h
      rcases pk with ⟨k, _, pv⟩ | ⟨_, pv⟩ <;> rw [pv] at h <;> exact absurd (itoa_first h.symm) (nc_not (by simp))
    · rw [qv] at h
      rcases pk with ⟨k, _, pv⟩ | ⟨_, pv⟩ <;> rw [pv] at h <;> simp at h
    · rcases pk with ⟨k, pi, pv⟩ | ⟨pi, pv⟩
      · rcases qk with ⟨k', qi, qv⟩ | ⟨qi, qv⟩
        · rw [pv, qv] at h ⊢
          simp only [List.cons_append] at h
          injection h with _ h
          obtain ⟨h1, h2⟩ := cutN da.nonN db.nonN h
          refine ⟨h2, Rd.same hl, ?_⟩
          unfold OkV
          rw [pt, qt]
          have hk : k = k' := by omega
          subst hk
          exact ⟨k, pi, qi⟩
        · rw [pv, qv] at h
          simp only [List.cons_append, List.append_assoc] at h
          injection h with _ h
          obtain ⟨h1, _⟩ := cutN da.nonN (opn_nonN _ _) h
          have := (List.getElem?_eq_some_iff.1 (idx_at pi)).1
          omega
      · rcases qk with ⟨k', qi, qv⟩ | ⟨qi, qv⟩
        · rw [pv, qv] at h
          simp only [List.cons_append, List.append_assoc] at h
          injection h with _ h
          obtain ⟨h1, _⟩ := cutN (opn_nonN _ _) db.nonN h
          have := (List.getElem?_eq_some_iff.1 (idx_at qi)).1
          omega
        · have f1 := lft_one (fun _ => 1) pt pi
          obtain ⟨m, rfl⟩ : ∃ m, n = m + 1 := ⟨n - 1, by omega⟩
          rw [pv] at ga
          rw [qv] at gb
          rw [pv, qv] at h ⊢
          simp only [List.cons_append, List.append_assoc] at h
          injection h with _ h
          obtain ⟨_, h2⟩ := cutN (opn_nonN _ _) (opn_nonN _ _) h
          obtain ⟨k1, k2, k3⟩ := new_read hA hB (H m rfl) hl da db pt qt pi qi ga gb fa fb h2
          refine ⟨k1, k2, ?_⟩
          unfold OkV
          rw [pt, qt]
          exact k3
theorem val_read {A B : List (Int × List (Int × Int))} (hA : Ls A) (hB : Ls B) : ∀ n, RdV A B n
  | 0 => val_step hA hB 0 (fun m h => by omega)
  | n + 1 => val_step hA hB (n + 1) (fun m h => by obtain rfl : n = m := (by omega); exact val_read hA hB n)

/-- Equal texts, where nothing is odd, tell heaps that are alike. -/
theorem texts_alike {A B : List (Int × List (Int × Int))} (hA : Ls A) (hB : Ls B) {x y : List (Int × Int)} (ex : ∀ c, c ∈ x → Ev A c) (ey : ∀ c, c ∈ y → Ev B c) (ga : ∀ i, i ∈ reachR A x → Gd A i) (gb : ∀ i, i ∈ reachR B y → Gd B i) (h : showR A x = showR B y) : Alike A x B y := by
  unfold showR at h
  unfold reachR at ga gb
  rw [show_fuel A x (A.length + B.length + 1) (by omega)] at h ga
  rw [show_fuel B y (A.length + B.length + 1) (by omega)] at h gb
  have l1 := lft_len A []
  have l2 := lft_len B []
  obtain ⟨_, k2, k3⟩ := lst_read (val_read hA hB (A.length + B.length)) x y [] [] [] [] [] rfl (.inl rfl) (fun c t e => by cases e) (fun c t e => by cases e) ex ey ga gb (by omega) (by omega) (by rw [h])
  refine ⟨_, ⟨fun i j j' h1 h2 => ?_, fun i i' j h1 h2 => ?_, fun i j hij => ?_⟩, k3⟩
  · obtain ⟨k, e1, e2⟩ := h1
    obtain ⟨k', e3, e4⟩ := h2
    rw [e1] at e3
    injection e3 with e3
    subst e3
    have := idx_at e2
    rw [idx_at e4] at this
    injection this with this
    exact this.symm
  · obtain ⟨k, e1, e2⟩ := h1
    obtain ⟨k', e3, e4⟩ := h2
    rw [e2] at e4
    injection e4 with e4
    subst e4
    have := idx_at e1
    rw [idx_at e3] at this
    injection this with this
    exact this.symm
  · obtain ⟨k, e1, e2⟩ := hij
    exact k2.al k i j (by simp) (idx_at e1) (idx_at e2)
end Go.Proofs.YtefkcmeeagflmaaDoor
