/-
  Rows that are counted, as lists; what a store and a delete make of a map; condition: no key stands twice.
-/
import Derived.Test.YtjeddgjndpdhoaaPrD
namespace Go.Proofs.Ytjeddgjndpdhoaa
open Go.RowKit Go.Shelf Go.Maps Go.ChangeShapes
open Go.ChangeMaps (setBlock)
set_option linter.unusedVariables false
set_option linter.unusedSimpArgs false

theorem own_tight {k : TypeId} {R : Value → Option (DataW Unit × List MemPlace)} {w : World} {b n : Nat} {D : DataW Unit} (h : w.ownsMap Try.prog k R b n D) {m : Nat} (hm : Maps.size D ≤ m) : w.ownsMap Try.prog k R b m D := by
  obtain ⟨es, clock, hb, F, hs, rfl⟩ := h
  exact ⟨es, clock, hb, F, by simpa [Maps.size, length_sorted] using hm, rfl⟩
def Nd (L : List Rw) : Prop := L.Pairwise (fun a b => a.k ≠ b.k)
def putL (L : List Rw) (k : Ky) (n s : Int) : List Rw := if hasL L k then L.map (fun r => if r.k = k then ⟨k, n, s⟩ else r) else L ++ [⟨k, n, s⟩]
def delL (L : List Rw) (k : Ky) : List Rw := L.filter (fun r => decide (r.k ≠ k))
theorem rowOf_nil (k : Ky) : rowOf [] k = none := rfl
theorem rowOf_cons (r : Rw) (L : List Rw) (k : Ky) : rowOf (r :: L) k = if r.k = k then some r else rowOf L k := by
  unfold rowOf
  by_cases h : r.k = k <;> simp [List.find?_cons, h]
theorem rowOf_append (L M : List Rw) (k : Ky) : rowOf (L ++ M) k = (rowOf L k).or (rowOf M k) := by
  unfold rowOf; simp [List.find?_append]
theorem rowOf_map (k : Ky) (n s : Int) (k' : Ky) : ∀ L : List Rw, rowOf (L.map (fun r => if r.k = k then ⟨k, n, s⟩ else r)) k' = if k' = k then (rowOf L k).map (fun _ => ⟨k, n, s⟩) else rowOf L k'
  | [] => by simp [rowOf_nil]
  | r :: L => by
    have ih := rowOf_map k n s k' L
    simp only [List.map_cons, rowOf_cons, ih]
    by_cases h1 : r.k = k
    · simp only [if_pos h1]
      by_cases h2 : k' = k
      · subst h2; simp
      · rw [if_neg (Ne.symm h2), if_neg h2, if_neg h2, h1, if_neg (Ne.symm h2)]
    · simp only [if_neg h1]
      by_cases h2 : k' = k
      · subst h2; simp [h1]
      · simp only [if_neg h2]
theorem rowOf_put (L : List Rw) (k : Ky) (n s : Int) (k' : Ky) : rowOf (putL L k n s) k' = if k' = k then some ⟨k, n, s⟩ else rowOf L k' := by
  unfold putL
  split
  · rename_i h
    rw [rowOf_map]
    by_cases e : k' = k
    · rw [if_pos e, if_pos e]
      unfold hasL at h
      cases hr : rowOf L k with
      | none => rw [hr] at h; simp at h
      | some r => rfl
    · rw [if_neg e, if_neg e]
  · rename_i h
    have h0 : rowOf L k = none := by unfold hasL at h; simpa using h
    rw [rowOf_append, rowOf_cons, rowOf_nil]
    by_cases e : k' = k
    · subst e; simp [h0]
    · rw [if_neg (Ne.symm e), if_neg e]; simp
theorem rowOf_del (k k' : Ky) : ∀ L : List Rw, rowOf (delL L k) k' = if k' = k then none else rowOf L k'
  | [] => by simp [delL, rowOf_nil]
  | r :: L => by
    have ih := rowOf_del k k' L
    unfold delL at ih ⊢
    by_cases h1 : r.k = k
    · rw [List.filter_cons_of_neg (by simp [h1]), ih, rowOf_cons]
      by_cases h2 : k' = k
      · rw [if_pos h2, if_pos h2]
      · rw [if_neg h2, if_neg h2, h1, if_neg (Ne.symm h2)]
    · rw [List.filter_cons_of_pos (by simp [h1]), rowOf_cons, ih, rowOf_cons]
      by_cases h2 : k' = k
      · subst h2; simp [h1]
      · rw [if_neg h2, if_neg h2]
theorem len_put (L : List Rw) (k : Ky) (n s : Int) : (putL L k n s).length = if hasL L k then L.length else L.length + 1 := by
  unfold putL; split <;> simp
theorem del_of_not {L : List Rw} {k : Ky} (h : hasL L k = false) : delL L k = L := by
  unfold delL
  rw [List.filter_eq_self]
  intro r hr
  unfold hasL rowOf at h
  simp only [Option.isSome_eq_false_iff, Option.isNone_iff_eq_none, List.find?_eq_none] at h
  simpa using h r hr
theorem has_iff {L : List Rw} {k : Ky} : hasL L k = true ↔ ∃ r ∈ L, r.k = k := by
  unfold hasL rowOf
  simp [List.find?_isSome]
theorem len_del {L : List Rw} (h : Nd L) {k : Ky} (hk : hasL L k = true) : (delL L k).length + 1 = L.length := by
  induction L with
  | nil => simp [hasL, rowOf] at hk
  | cons r L ih =>
    obtain ⟨h1, h2⟩ := List.pairwise_cons.1 h
    by_cases e : r.k = k
    · have : hasL L k = false := by
        cases hh : hasL L k with
        | false => rfl
        | true =>
          obtain ⟨q, hq, hqk⟩ := has_iff.1 hh
          exact absurd (e.trans hqk.symm) (h1 q hq)
      have e2 : delL (r :: L) k = delL L k := by unfold delL; rw [List.filter_cons_of_neg (by simp [e])]
      rw [e2, del_of_not this]; simp
    · have hk' : hasL L k = true := by
        rw [has_iff] at hk ⊢
        obtain ⟨q, hq, hqk⟩ := hk
        rcases List.mem_cons.1 hq with rfl | hq
        · exact absurd hqk e
        · exact ⟨q, hq, hqk⟩
      have e2 : delL (r :: L) k = r :: delL L k := by unfold delL; rw [List.filter_cons_of_pos (by simp [e])]
      rw [e2]; simp [ih h2 hk']
theorem cnt_of {L : List Rw} {k : Ky} {r : Rw} (h : rowOf L k = some r) : cntL L k = r.n ∧ sncL L k = r.s ∧ hasL L k = true := by simp [cntL, sncL, hasL, h]
theorem mem_of_row {L : List Rw} {k : Ky} {r : Rw} (h : rowOf L k = some r) : r ∈ L ∧ r.k = k := by
  unfold rowOf at h
  exact ⟨List.mem_of_find?_eq_some h, by have := List.find?_some h; simpa using this⟩
theorem CM.store {w : World} {mb : Nat} {L : List Rw} (h : CM w mb L) (hL : L.length ≤ 100000) {k : Ky} (hk : kw k) (n s : Int) : ∃ w', (Instr.mapUpdate 51 (.map (some mb)) (.agg (kc k)) (tv n s)).run Try.prog w = .ok () w' ∧ CM w' mb (putL L k n s) ∧ Fr [mb] w w' ∧ w'.heap.size = w.heap.size := by
  obtain ⟨D, ho, hs, hD, hE⟩ := h.ex
  obtain ⟨w', hr, ho', ht⟩ := ho.store law28 under51 (by simp only [maxLen]; omega) (keyOf28 k hk) (tElem_mk n s)
  have hsz : w'.heap.size = w.heap.size := by obtain ⟨_, _, _, _, _, rfl⟩ := ht; simp [setBlock]
  refine ⟨w', hr, ⟨_, own_tight ho' ?_, ?_, ?_, ?_⟩, Fr.ofGrown ht.grown, hsz⟩
  · rw [size_put (ho.tidy law28), (hD k hk).1, hs, len_put]; exact Nat.le_refl _
  · rw [size_put (ho.tidy law28), (hD k hk).1, hs, len_put]
  · intro k' hk'
    have hi := ho.isMap
    have hkey := law28.key (keyOf28 k hk)
    by_cases e : k' = k
    · subst e
      have := rowOf_put L k' n s k'
      rw [if_pos rfl] at this
      obtain ⟨e1, e2, e3⟩ := cnt_of this
      rw [has_put_same hi hkey, atKey_put_same hi hkey, e1, e2, e3]
      exact ⟨rfl, rfl⟩
    · have hne : kl k' ≠ kl k := fun h' => e (kl_inj hk' hk h')
      have := rowOf_put L k n s k'
      rw [if_neg e] at this
      rw [has_put_other hne, atKey_put_other hne]
      unfold hasL cntL sncL
      rw [this]
      exact hD k' hk'
  · intro l hl
    have hp := rowOf_put L k n s
    by_cases e : l = kl k
    · obtain ⟨h1, h2⟩ := mem_of_row (by rw [hp k, if_pos rfl])
      exact ⟨_, h1, hk, e⟩
    · rw [has_put_other e] at hl
      obtain ⟨r, hr, hrk, rfl⟩ := hE l hl
      obtain ⟨r2, h2⟩ := Option.isSome_iff_exists.1 (has_iff.2 ⟨r, hr, rfl⟩)
      have hne : r.k ≠ k := fun h' => e (by rw [h'])
      obtain ⟨h3, h4⟩ := mem_of_row (by rw [hp r.k, if_neg hne]; exact h2)
      exact ⟨r2, h3, by rw [h4]; exact hrk, by rw [h4]⟩
theorem CM.drop {w : World} {mb : Nat} {L : List Rw} (h : CM w mb L) (hn : Nd L) {k : Ky} (hk : kw k) (ty : TypeId) : ∃ w', (Builtin.delete_ #[51, 28] ty #[.map (some mb), .agg (kc k)]).run Try.prog w = .ok (.tuple #[]) w' ∧ CM w' mb (delL L k) ∧ Fr [mb] w w' ∧ w'.heap.size = w.heap.size := by
  obtain ⟨D, ho, hs, hD, hE⟩ := h.ex
  obtain ⟨w', hr, ho', ht⟩ := ho.drop law28 under51 (keyOf28 k hk) ty
  have hsz : w'.heap.size = w.heap.size := by obtain ⟨_, _, _, _, _, rfl⟩ := ht; simp [setBlock]
  have hsd := size_del (D := D) (k := kl k) (ho.tidy law28)
  rw [(hD k hk).1, hs] at hsd
  have hsd' : Maps.size (D.del (kl k)) = (delL L k).length := by
    cases hh : hasL L k with
    | true =>
      have := len_del hn hh
      rw [hh] at hsd
      simp at hsd
      omega
    | false =>
      rw [del_of_not hh]
      rw [hh] at hsd
      simpa using hsd
  refine ⟨w', hr, ⟨_, own_tight ho' (by omega), hsd', ?_, ?_⟩, Fr.ofGrown ht.grown, hsz⟩
  rotate_left
  · intro l hl
    have hp := fun k' => rowOf_del k k' L
    by_cases e : l = kl k
    · rw [e, has_del_same] at hl; cases hl
    · rw [has_del_other e] at hl
      obtain ⟨r, hr, hrk, rfl⟩ := hE l hl
      obtain ⟨r2, h2⟩ := Option.isSome_iff_exists.1 (has_iff.2 ⟨r, hr, rfl⟩)
      have hne : r.k ≠ k := fun h' => e (by rw [h'])
      obtain ⟨h3, h4⟩ := mem_of_row (by rw [hp r.k, if_neg hne]; exact h2)
      exact ⟨r2, h3, by rw [h4]; exact hrk, by rw [h4]⟩
  intro k' hk'
  have := rowOf_del k k' L
  by_cases e : k' = k
  · subst e
    rw [if_pos rfl] at this
    rw [has_del_same, atKey_del_same]
    simp [hasL, cntL, sncL, this]
  · have hne : kl k' ≠ kl k := fun h' => e (kl_inj hk' hk h')
    rw [if_neg e] at this
    rw [has_del_other hne, atKey_del_other hne]
    unfold hasL cntL sncL
    rw [this]
    exact hD k' hk'
def addO (O : List Ky) (k : Ky) : List Ky := if k ∈ O then O else O ++ [k]
theorem BM.store {w : World} {mb : Nat} {L : List Ky} (h : BM w mb L) (hL : L.length ≤ 100000) {k : Ky} (hk : kw k) : ∃ w', (Instr.mapUpdate 52 (.map (some mb)) (.agg (kc k)) (.agg #[])).run Try.prog w = .ok () w' ∧ BM w' mb (addO L k) ∧ Fr [mb] w w' ∧ w'.heap.size = w.heap.size := by
  obtain ⟨D, ho, hs, hD⟩ := h.ex
  obtain ⟨w', hr, ho', ht⟩ := ho.store law28 under52 (by simp only [maxLen]; omega) (keyOf28 k hk) unitElem_mk
  have hsz : w'.heap.size = w.heap.size := by obtain ⟨_, _, _, _, _, rfl⟩ := ht; simp [setBlock]
  have hsp : Maps.size (D.put (kl k) (.agg [])) = (addO L k).length := by
    rw [size_put (ho.tidy law28), hD k hk, hs]
    unfold addO
    by_cases e : k ∈ L <;> simp [e]
  refine ⟨w', hr, ⟨_, own_tight ho' (by omega), hsp, ?_⟩, Fr.ofGrown ht.grown, hsz⟩
  intro k' hk'
  have hi := ho.isMap
  have hkey := law28.key (keyOf28 k hk)
  unfold addO
  by_cases e : k' = k
  · subst e
    rw [has_put_same hi hkey]
    by_cases e2 : k' ∈ L <;> simp [e2]
  · have hne : kl k' ≠ kl k := fun h' => e (kl_inj hk' hk h')
    rw [has_put_other hne, hD k' hk']
    by_cases e2 : k ∈ L <;> simp [e2, e]
end Go.Proofs.Ytjeddgjndpdhoaa
