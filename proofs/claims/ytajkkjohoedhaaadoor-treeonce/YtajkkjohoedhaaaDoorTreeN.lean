/-
  Rows that grow, and what the document's table says of a node beside the program's; no condition.
-/
import Derived.Test.YtajkkjohoedhaaaDoorTreeH
import Derived.Test.YtajkkjohoedhaaaDoorTreeL
import Derived.Test.YtajkkjohoedhaaaDoorTreeM
import Derived.Laws.AppendOwn
namespace Go.Proofs.YtajkkjohoedhaaaDoor
open Go.RowKit
set_option linter.unusedVariables false
set_option linter.unusedSimpArgs false

/-- A row of numbers of one's own, that grows. -/
def OR (w : World) (base : Nat) (v : Value) (K : List Int) : Prop := w.ownsRow base 3 1 v K.length (K.map (Value.int .i64))
theorem OR.nil (w : World) (base : Nat) : OR w base (.slice none 0 0) [] := World.ownsRow_nil _ _ _ _
theorem OR.fr {w w' : World} {base : Nat} {v : Value} {K : List Int} {S : List Nat} (h : OR w base v K) (f : Fr S w w') (hS : ∀ k, k ∈ S → k < base) : OR w' base v K := by
  obtain ⟨h1, h2⟩ := h
  refine ⟨h1, ?_⟩
  rcases h2 with h2 | ⟨g, cap, cur, e, hb, hg, r⟩
  · exact .inl h2
  · exact .inr ⟨g, cap, cur, e, hb, (f.block g (Array.getElem?_eq_some_iff.1 hg).1 (fun hm => by have := hS g hm; omega)).trans hg, r⟩
theorem OR.slice {w : World} {base : Nat} {v : Value} {K : List Int} (h : OR w base v K) : ∃ a c, v = .slice a K.length c ∧ K.length ≤ c ∧ (a = none → c = 0) := by
  obtain ⟨h1, h2⟩ := h
  rcases h2 with ⟨e, h0⟩ | ⟨g, cap, cur, e, hb, hg, hc, _⟩
  · exact ⟨none, 0, by rw [h0]; exact e, by omega, fun _ => rfl⟩
  · exact ⟨_, cap, e, hc, fun h => by cases h⟩
theorem OR.kat {w : World} {base : Nat} {a : Option Addr} {c : Nat} {K : List Int} (h : OR w base (.slice a K.length c) K) : KAt w.heap.size w a K := fun j k hj => by
  have hlt := (List.getElem?_eq_some_iff.1 hj).1
  obtain ⟨h1, h2⟩ := h
  rcases h2 with ⟨e, h0⟩ | ⟨g, cap, cur, e, hb, hg, hc, hm, hs, ht⟩
  · omega
  · injection e with e1 e2 e3
    subst e1
    have hcell : cur.toList[j]? = some (.int .i64 k) := by
      have : (cur.toList.take (K.length * 1))[j]? = (K.map (Value.int .i64))[j]? := by rw [ht]
      rw [List.getElem?_take_of_lt (by omega)] at this
      rw [this]
      simp [hj]
    refine ⟨g, 0, rfl, (Array.getElem?_eq_some_iff.1 hg).1, ?_⟩
    simp only [World.cell?, hg, Nat.zero_add]
    simpa using hcell
theorem Fr.ofGrown {w w' : World} {row : Option Nat} (hg : w.grownBy w' row) : Fr row.toList w w' :=
  Fr.grown (Fr.refl _ _) hg (fun k e => .inl (by rw [e]; simp))

/-! What the document says of one node. -/
theorem want_some {k : Int} (h : 1 ≤ k ∧ k ≤ 30) : ∃ t ls, wantL k = some (t, ls) := by
  have hc : k = 1 ∨ k = 2 ∨ k = 3 ∨ k = 4 ∨ k = 5 ∨ k = 6 ∨ k = 7 ∨ k = 8 ∨ k = 9 ∨ k = 10 ∨ k = 11 ∨ k = 12 ∨ k = 13 ∨ k = 14 ∨ k = 15 ∨ k = 16 ∨ k = 17 ∨ k = 18 ∨ k = 19 ∨ k = 20 ∨ k = 21 ∨ k = 22 ∨ k = 23 ∨ k = 24 ∨ k = 25 ∨ k = 26 ∨ k = 27 ∨ k = 28 ∨ k = 29 ∨ k = 30 := by omega
  rcases hc with rfl | rfl | rfl | rfl | rfl | rfl | rfl | rfl | rfl | rfl | rfl | rfl | rfl | rfl | rfl | rfl | rfl | rfl | rfl | rfl | rfl | rfl | rfl | rfl | rfl | rfl | rfl | rfl | rfl | rfl <;> exact ⟨_, _, rfl⟩
theorem node_take {L : List Nd} {n : Nat} {x : Nd} {T : List Bool} (h : takeL n x.ks T = none) : nodeE L n x T = .error 50 := by
  unfold nodeE
  split
  · rfl
  · split
    · rfl
    · simp only [h]
theorem node_odd {L : List Nd} {n : Nat} {x : Nd} {T : List Bool} (h : x.pl < 0 ∨ x.kind < 1 ∨ 30 < x.kind) : nodeE L n x T = .error 50 := by
  unfold nodeE
  split
  · rfl
  · rename_i t ls hw
    have : x.pl < 0 := by
      rcases h with h | h
      · exact h
      · rw [lookup_want _ h] at hw; cases hw
    rw [if_pos this]
theorem node_rest {L : List Nd} {n : Nat} {x : Nd} {T T' : List Bool} {t : Nat} {ls : List UInt8} (hw : wantL x.kind = some (t, ls)) (hp : ¬ x.pl < 0) (h : takeL n x.ks T = some T') : nodeE L n x T = if textL t x.text = false then .error 52 else if shapeL x.kind (x.ks.map (kd L)) = false then .error 53 else .ok T' := by
  unfold nodeE
  rw [hw]
  simp only [h]
  rw [if_neg hp, shape_fit _ _ _ _ hw]

theorem take_true {n : Nat} : ∀ (ks : List Int) (T T' : List Bool) (k : Nat), takeL n ks T = some T' → T'.getD k false = true → T.getD k false = true ∨ (k : Int) ∈ ks
  | [], T, T', k, h, ht => by simp [takeL] at h; subst h; exact .inl ht
  | q :: r, T, T', k, h, ht => by
    simp only [takeL] at h
    split at h
    · cases h
    · rename_i hn
      rcases take_true r _ _ k h ht with h1 | h1
      · by_cases e : k = q.toNat
        · refine .inr ?_
          have : (k : Int) = q := by omega
          rw [this]; simp
        · refine .inl ?_
          rw [List.getD_eq_getElem?_getD, List.getElem?_set_ne (fun e' => e e'.symm)] at h1
          rw [List.getD_eq_getElem?_getD]; exact h1
      · exact .inr (List.mem_cons_of_mem _ h1)
theorem prog_unused {L : List Nd} : ∀ (n : Nat) (T : List Bool), nodesL L n = .ok T → ∀ k : Nat, T.getD k false = true → kd L (k : Int) ≠ 1
  | 0, T, h, k, ht => by
    simp [nodesL] at h
    subst h
    rw [List.getD_eq_getElem?_getD, List.getElem?_replicate] at ht
    split at ht <;> simp at ht
  | n + 1, T, h, k, ht => by
    unfold nodesL at h
    split at h
    · cases h
    · rename_i T0 h0
      have ih := prog_unused n T0 h0 k
      split at h
      · cases h; exact ih ht
      · rename_i x hx
        split at h
        · cases h
        · rename_i T1 h1
          cases h
          unfold nodeE at h1
          split at h1
          · cases h1
          · split at h1
            · cases h1
            · split at h1
              · cases h1
              · rename_i T2 ht2
                split at h1
                · cases h1
                · split at h1
                  · cases h1
                  · rename_i hfit
                    cases h1
                    rcases take_true _ _ _ k ht2 ht with h3 | h3
                    · exact ih h3
                    · intro e
                      have := fit_kind _ _ (by simpa using hfit)
                      apply this
                      rw [← e]
                      exact List.mem_map_of_mem h3
theorem has0_of {T : List Bool} {n i : Nat} (hi : i < n) (hl : i < T.length) (h : T.getD i false = false) : has0 T n = true := by
  refine contains_mono hi ?_
  rw [take_snocB hl, h]
  simp
theorem has0_not {T : List Bool} : ∀ (n : Nat), n ≤ T.length → (∀ i, i < n → T.getD i false = true) → has0 T n = false
  | 0, _, _ => by simp [has0]
  | n + 1, hl, h => by
    rw [take_snocB (by omega), has0_not n (by omega) (fun i hi => h i (by omega)), h n (by omega)]
    rfl
end Go.Proofs.YtajkkjohoedhaaaDoor
