/-
  The document's Same, by pairs; pure.
-/
import Derived.Test.YtefkcmeeagflmaaDoorMgLJPN
namespace Go.Proofs.YtefkcmeeagflmaaDoor
open Go.RowKit
set_option linter.unusedVariables false
set_option linter.unusedSimpArgs false

theorem OkL.at {A B : List (Int × List (Int × Int))} {R : Int → Int → Prop} : ∀ {x y : List (Int × Int)}, OkL A B R x y → ∀ {j : Nat} {p q : Int × Int}, x[j]? = some p → y[j]? = some q → OkV A B R p q
  | [], [], _, j, p, q, h, _ => by simp at h
  | a :: x, b :: y, h, 0, p, q, h1, h2 => by simp at h1 h2; subst h1 h2; exact h.1
  | a :: x, b :: y, h, j + 1, p, q, h1, h2 => OkL.at h.2 (by simpa using h1) (by simpa using h2)
  | [], _ :: _, h, _, _, _, _, _ => by cases h
  | _ :: _, [], h, _, _, _, _, _ => by cases h
theorem OkL.of {A B : List (Int × List (Int × Int))} {R : Int → Int → Prop} : ∀ {x y : List (Int × Int)}, x.length = y.length → (∀ (j : Nat) (p q : Int × Int), x[j]? = some p → y[j]? = some q → OkV A B R p q) → OkL A B R x y
  | [], [], _, _ => trivial
  | a :: x, b :: y, h, k => ⟨k 0 a b rfl rfl, OkL.of (by simpa using h) (fun j p q h1 h2 => k (j + 1) p q (by simpa using h1) (by simpa using h2))⟩
  | [], _ :: _, h, _ => by simp at h
  | _ :: _, [], h, _ => by simp at h
theorem OkL.mono {A B : List (Int × List (Int × Int))} {R S : Int → Int → Prop} (h : ∀ i j, R i j → S i j) : ∀ {x y : List (Int × Int)}, OkL A B R x y → OkL A B S x y
  | [], [], _ => trivial
  | a :: x, b :: y, k => ⟨k.1.mono h, OkL.mono h k.2⟩
  | [], _ :: _, k => by cases k
  | _ :: _, [], k => by cases k

/-- The first pair that one of them is in: whether it is the pair of both. -/
def sc : List (Int × Int) → Int → Int → Option Bool
  | [], _, _ => none
  | t :: r, n, m => if t.1 = n ∨ t.2 = m then some (decide (t.1 = n ∧ t.2 = m)) else sc r n m

theorem sc_none : ∀ {l : List (Int × Int)} {n m : Int}, sc l n m = none → ∀ t, t ∈ l → t.1 ≠ n ∧ t.2 ≠ m
  | [], _, _, _, t, ht => by simp at ht
  | s :: r, n, m, h, t, ht => by
    unfold sc at h
    split at h
    · cases h
    · rename_i h1
      simp only [List.mem_cons] at ht
      rcases ht with rfl | ht
      · exact ⟨fun e => h1 (.inl e), fun e => h1 (.inr e)⟩
      · exact sc_none h t ht
theorem sc_true : ∀ {l : List (Int × Int)} {n m : Int}, sc l n m = some true → (n, m) ∈ l
  | [], _, _, h => by simp [sc] at h
  | s :: r, n, m, h => by
    unfold sc at h
    split at h
    · simp at h
      rw [show (n, m) = s by rw [← h.1, ← h.2]]
      simp
    · simp [sc_true h]
theorem sc_false : ∀ {l : List (Int × Int)} {n m : Int}, sc l n m = some false → ∃ t, t ∈ l ∧ (t.1 = n ∨ t.2 = m) ∧ ¬ (t.1 = n ∧ t.2 = m)
  | [], _, _, h => by simp [sc] at h
  | s :: r, n, m, h => by
    unfold sc at h
    split at h
    · rename_i h1
      exact ⟨s, by simp, h1, by simpa using h⟩
    · obtain ⟨t, h1, h2⟩ := sc_false h
      exact ⟨t, by simp [h1], h2⟩
theorem sc_app : ∀ (l r : List (Int × Int)) (n m : Int), sc (l ++ r) n m = match sc l n m with | some b => some b | none => sc r n m
  | [], r, n, m => rfl
  | t :: l, r, n, m => by
    simp only [List.cons_append, sc]
    split
    · rfl
    · exact sc_app l r n m

/-- One pair of values. -/
def vS (A B : List (Int × List (Int × Int))) (l : List (Int × Int)) (p q : Int × Int) : Option (List (Int × Int)) :=
  match thingAt A p, thingAt B q with
  | none, none => if p = q then some l else none
  | some _, some _ => match sc l p.2 q.2 with
    | none => some (l ++ [(p.2, q.2)])
    | some true => some l
    | some false => none
  | _, _ => none

def inL (l : List (Int × Int)) (i j : Int) : Prop := (i, j) ∈ l

structure Pi (A : List (Int × List (Int × Int))) (x : List (Int × Int)) (B : List (Int × List (Int × Int))) (y l : List (Int × Int)) : Prop where
  un : ∀ s t, s ∈ l → t ∈ l → (s.1 = t.1 ↔ s.2 = t.2)
  th : ∀ t, t ∈ l → (∃ a, thingAt A (2, t.1) = some a) ∧ ∃ b, thingAt B (2, t.2) = some b
  sub : ∀ R, OkR A B R → OkL A B R x y → ∀ t, t ∈ l → R t.1 t.2
  bd : l.length + lft (fun _ => 1) A (l.map Prod.fst) ≤ A.length

theorem Pi.start (A : List (Int × List (Int × Int))) (x : List (Int × Int)) (B : List (Int × List (Int × Int))) (y : List (Int × Int)) : Pi A x B y [] := by
  refine ⟨fun s t h => by simp at h, fun t h => by simp at h, fun R _ _ t h => by simp at h, ?_⟩
  have := lft_len A []
  simp only [List.length_nil, List.map_nil]
  omega

theorem Pi.yes {A : List (Int × List (Int × Int))} {x : List (Int × Int)} {B : List (Int × List (Int × Int))} {y l l' : List (Int × Int)} {p q : Int × Int} (h : Pi A x B y l) (hk : ∀ R, OkR A B R → OkL A B R x y → OkV A B R p q) (e : vS A B l p q = some l') : Pi A x B y l' ∧ (∃ t, l' = l ++ t) ∧ OkV A B (inL l') p q := by
  unfold vS at e
  split at e
  · rename_i h1 h2
    split at e
    · rename_i hpq
      injection e with e
      subst e
      refine ⟨h, ⟨[], by simp⟩, ?_⟩
      unfold OkV
      rw [h1, h2]
      exact hpq
    · cases e
  · rename_i a b h1 h2
    split at e
    · rename_i hs
      injection e with e
      subst e
      have hn := sc_none hs
      have hpt := thing_two h1
      have hqt := thing_two h2
      refine ⟨⟨?_, ?_, ?_, ?_⟩, ⟨_, rfl⟩, ?_⟩
      · intro s t hs ht
        simp only [List.mem_append, List.mem_singleton] at hs ht
        rcases hs with hs | rfl
        · rcases ht with ht | rfl
          · exact h.un s t hs ht
          · exact ⟨fun e => absurd e (hn s hs).1, fun e => absurd e (hn s hs).2⟩
        · rcases ht with ht | rfl
          · exact ⟨fun e => absurd e.symm (hn t ht).1, fun e => absurd e.symm (hn t ht).2⟩
          · simp
      · intro t ht
        simp only [List.mem_append, List.mem_singleton] at ht
        rcases ht with ht | rfl
        · exact h.th t ht
        · exact ⟨⟨a, by rw [← hpt]; exact h1⟩, ⟨b, by rw [← hqt]; exact h2⟩⟩
      · intro R hR hxy t ht
        simp only [List.mem_append, List.mem_singleton] at ht
        rcases ht with ht | rfl
        · exact h.sub R hR hxy t ht
        · have := hk R hR hxy
          unfold OkV at this
          rw [h1, h2] at this
          exact this
      · have hi : idx (l.map Prod.fst) p.2 = none := by
          rw [idx_mem]
          simp only [List.mem_map, not_exists, not_and]
          exact fun t ht e => (hn t ht).1 e
        have := lft_one (fun _ => 1) h1 hi
        have := h.bd
        simp only [List.map_append, List.map_cons, List.map_nil, List.length_append, List.length_singleton]
        omega
      · unfold OkV
        rw [h1, h2]
        simp [inL]
    · rename_i hs
      injection e with e
      subst e
      refine ⟨h, ⟨[], by simp⟩, ?_⟩
      unfold OkV
      rw [h1, h2]
      exact sc_true hs
    · cases e
  · cases e

theorem Pi.no {A : List (Int × List (Int × Int))} {x : List (Int × Int)} {B : List (Int × List (Int × Int))} {y l : List (Int × Int)} {p q : Int × Int} (h : Pi A x B y l) (hk : ∀ R, OkR A B R → OkL A B R x y → OkV A B R p q) (e : vS A B l p q = none) : ¬ Alike A x B y := by
  rintro ⟨R, hR, hxy⟩
  have hv := hk R hR hxy
  unfold OkV at hv
  unfold vS at e
  split at e
  · rename_i h1 h2
    rw [h1, h2] at hv
    rw [if_pos hv] at e
    cases e
  · rename_i a b h1 h2
    rw [h1, h2] at hv
    split at e
    · cases e
    · cases e
    · rename_i hs
      obtain ⟨t, ht, h3, h4⟩ := sc_false hs
      have ht' := h.sub R hR hxy t ht
      rcases h3 with h3 | h3
      · refine h4 ⟨h3, ?_⟩
        rw [h3] at ht'
        exact hR.one _ _ _ ht' hv
      · refine h4 ⟨?_, h3⟩
        rw [h3] at ht'
        exact hR.uno _ _ _ ht' hv
  · rename_i h1 h2
    cases ha : thingAt A p with
    | none =>
      cases hb : thingAt B q with
      | none => exact h1 ha hb
      | some b => rw [ha, hb] at hv; exact hv
    | some a =>
      cases hb : thingAt B q with
      | none => rw [ha, hb] at hv; exact hv
      | some b => exact h2 a b ha hb

/-- At the end. -/
theorem Pi.alike {A : List (Int × List (Int × Int))} {x : List (Int × Int)} {B : List (Int × List (Int × Int))} {y l : List (Int × Int)} (h : Pi A x B y l) (hxy : OkL A B (inL l) x y) (ho : ∀ (k : Nat) t, l[k]? = some t → ∃ a b, thingAt A (2, t.1) = some a ∧ thingAt B (2, t.2) = some b ∧ a.1 = b.1 ∧ OkL A B (inL l) a.2 b.2) : Alike A x B y := by
  refine ⟨inL l, ⟨fun i j k h1 h2 => ?_, fun i j k h1 h2 => ?_, fun i j hij => ?_⟩, hxy⟩
  · exact (h.un _ _ h1 h2).1 rfl
  · exact (h.un _ _ h1 h2).2 rfl
  · obtain ⟨k, hk⟩ := List.getElem?_of_mem hij
    exact ho k (i, j) hk
theorem Pi.pair {A : List (Int × List (Int × Int))} {x : List (Int × Int)} {B : List (Int × List (Int × Int))} {y l : List (Int × Int)} (h : Pi A x B y l) {t : Int × Int} (ht : t ∈ l) {a b : Int × List (Int × Int)} (ha : thingAt A (2, t.1) = some a) (hb : thingAt B (2, t.2) = some b) {R : Int → Int → Prop} (hR : OkR A B R) (hxy : OkL A B R x y) : a.1 = b.1 ∧ OkL A B R a.2 b.2 := by
  obtain ⟨a', b', h1, h2, h3, h4⟩ := hR.alike _ _ (h.sub R hR hxy t ht)
  rw [ha] at h1
  rw [hb] at h2
  injection h1 with h1
  injection h2 with h2
  subst h1 h2
  exact ⟨h3, h4⟩
end Go.Proofs.YtefkcmeeagflmaaDoor
