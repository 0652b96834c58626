/-
  What Hit and Ban make of a book is as a book must be; condition: so was the book.
-/
import Derived.Test.YtjeddgjndpdhoaaPrO
namespace Go.Proofs.Ytjeddgjndpdhoaa
open Go.RowKit Go.Shelf Go.Maps Go.ChangeShapes
set_option linter.unusedVariables false
set_option linter.unusedSimpArgs false

theorem ok_new (t : Int) (ht : t ≤ 9223372036854775807) : Ok ⟨max t 1, [], 0, []⟩ :=
  ⟨List.Pairwise.nil, by simp, by simp, List.Pairwise.nil, by simp, by simp, by show 1 ≤ max t 1 ∧ max t 1 ≤ _; omega, by simp⟩
theorem ok_sub {S : Bk} (h : Ok S) {L : List Rw} (hs : L.Sublist S.L) : Ok { S with L := L } :=
  ⟨List.Pairwise.sublist hs h.nd, fun r hr => h.kw r (hs.subset hr), Nat.le_trans hs.length_le h.len, List.Pairwise.sublist hs h.ord, fun r hr => h.top r (hs.subset hr), fun r hr => h.cnt r (hs.subset hr), h.thr, h.ent⟩
theorem ok_ban {S : Bk} (h : Ok S) (k : Ky) : Ok (banB S k) := by
  have h1 := ok_sub h (L := delL S.L k) (List.filter_sublist)
  exact ⟨h1.nd, h1.kw, h1.len, h1.ord, h1.top, h1.cnt, h1.thr, h1.ent⟩
theorem ok_ent {S : Bk} (h : Ok S) : Ok (entB S) ∧ (entB S).L.length ≤ 999 ∧ (∀ r ∈ (entB S).L, r.s ≤ S.ent) ∧ (entB S).L.Sublist S.L := by
  have hs : (entB S).L.Sublist S.L := by
    unfold entB; simp only
    split
    · exact List.eraseIdx_sublist ..
    · exact List.Sublist.refl _
  have h1 := ok_sub h hs
  have hl : (entB S).L.length ≤ 999 := by
    have := h.len
    unfold entB; simp only
    split
    · rename_i hh
      have hne : S.L ≠ [] := by intro e; rw [e] at hh; simp at hh
      obtain ⟨_, _, hlt, _⟩ := lsI_min hne S.L.length (Nat.le_refl _)
      rw [List.length_eraseIdx_of_lt hlt]; omega
    · omega
  have ht : ∀ r ∈ (entB S).L, r.s ≤ S.ent := h1.top
  exact ⟨⟨h1.nd, h1.kw, h1.len, h1.ord, fun r hr => by have := ht r hr; show r.s ≤ S.ent + 1; omega, h1.cnt, h1.thr, by have := h.ent; show 0 ≤ S.ent + 1; omega⟩, hl, ht, hs⟩
theorem nd_map {L : List Rw} (h : Nd L) {f : Rw → Rw} (hf : ∀ r ∈ L, (f r).k = r.k) : Nd (L.map f) := by
  unfold Nd at h ⊢
  rw [List.pairwise_map]
  refine List.Pairwise.imp_of_mem (fun {a b} ha hb hab => ?_) h
  rw [hf a ha, hf b hb]
  exact hab
theorem ok_put_old {S : Bk} (h : Ok S) {k : Ky} {r : Rw} (hr : rowOf S.L k = some r) {n : Int} (hn : 0 ≤ n ∧ n < S.thr) : Ok { S with L := putL S.L k n r.s } := by
  have hh : hasL S.L k = true := by simp [hasL, hr]
  obtain ⟨hrm, hrk⟩ := mem_of_row hr
  have he : putL S.L k n r.s = S.L.map (fun q => if q.k = k then ⟨k, n, r.s⟩ else q) := by unfold putL; rw [if_pos hh]
  have hk : ∀ q ∈ S.L, ((fun q : Rw => if q.k = k then ⟨k, n, r.s⟩ else q) q).k = q.k := fun q hq => by
    simp only; split
    · rename_i e; exact e.symm
    · rfl
  have hsq : ∀ q ∈ S.L, ((fun q : Rw => if q.k = k then (⟨k, n, r.s⟩ : Rw) else q) q).s = q.s := fun q hq => by
    simp only; split
    · rename_i e; rw [nd_eq h.nd hq hrm (e.trans hrk.symm)]
    · rfl
  refine ⟨?_, ?_, ?_, ?_, ?_, ?_, h.thr, h.ent⟩
  · show Nd (putL S.L k n r.s); rw [he]; exact nd_map h.nd hk
  · intro q hq
    have hq' : q ∈ putL S.L k n r.s := hq
    rw [he] at hq'
    obtain ⟨p, hp, rfl⟩ := List.mem_map.1 hq'
    rw [hk p hp]; exact h.kw p hp
  · show (putL S.L k n r.s).length ≤ 1000; rw [he]; simpa using h.len
  · show (putL S.L k n r.s).Pairwise _
    rw [he, List.pairwise_map]
    refine List.Pairwise.imp_of_mem (fun {a b} ha hb hab => ?_) h.ord
    rw [hsq a ha, hsq b hb]; exact hab
  · intro q hq
    have hq' : q ∈ putL S.L k n r.s := hq
    rw [he] at hq'
    obtain ⟨p, hp, rfl⟩ := List.mem_map.1 hq'
    rw [hsq p hp]; exact h.top p hp
  · intro q hq
    have hq' : q ∈ putL S.L k n r.s := hq
    rw [he] at hq'
    obtain ⟨p, hp, rfl⟩ := List.mem_map.1 hq'
    simp only; split
    · exact hn
    · exact h.cnt p hp
theorem ok_put_new {S : Bk} (h : Ok S) (hl : S.L.length ≤ 999) {s : Int} (ht : ∀ r ∈ S.L, r.s < s) (hs : s ≤ S.ent) {k : Ky} (hk : kw k) (hno : hasL S.L k = false) {n : Int} (hn : 0 ≤ n ∧ n < S.thr) : Ok { S with L := putL S.L k n s } := by
  have he : putL S.L k n s = S.L ++ [⟨k, n, s⟩] := by unfold putL; rw [hno]; rfl
  have hk0 : ∀ r ∈ S.L, r.k ≠ k := fun r hr e => by have := has_iff.2 ⟨r, hr, e⟩; rw [hno] at this; cases this
  refine ⟨?_, ?_, ?_, ?_, ?_, ?_, h.thr, h.ent⟩
  · show Nd (putL S.L k n s); rw [he]; unfold Nd
    rw [List.pairwise_append]
    exact ⟨h.nd, by simp, fun a ha b hb => by simp at hb; subst hb; exact hk0 a ha⟩
  · intro q hq
    have hq' : q ∈ putL S.L k n s := hq
    rw [he] at hq'
    rcases List.mem_append.1 hq' with h1 | h1
    · exact h.kw q h1
    · simp at h1; subst h1; exact hk
  · show (putL S.L k n s).length ≤ 1000; rw [he]; simp; omega
  · show (putL S.L k n s).Pairwise _; rw [he, List.pairwise_append]
    exact ⟨h.ord, by simp, fun a ha b hb => by simp at hb; subst hb; exact ht a ha⟩
  · intro q hq
    have hq' : q ∈ putL S.L k n s := hq
    rw [he] at hq'
    rcases List.mem_append.1 hq' with h1 | h1
    · exact h.top q h1
    · simp at h1; subst h1; exact hs
  · intro q hq
    have hq' : q ∈ putL S.L k n s := hq
    rw [he] at hq'
    rcases List.mem_append.1 hq' with h1 | h1
    · exact h.cnt q h1
    · simp at h1; subst h1; exact hn
theorem hit_thr (S : Bk) (k : Ky) : (hitB S k).1.thr = S.thr ∧ (hitB S k).1.O = S.O := by
  unfold hitB roomB
  split
  · exact ⟨rfl, rfl⟩
  · split <;> exact ⟨rfl, rfl⟩
theorem hit_ent (S : Bk) (k : Ky) : (hitB S k).1.ent ≤ S.ent + 1 := by
  unfold hitB roomB
  split
  · simp only; omega
  · split
    · simp only; omega
    · show S.ent + 1 ≤ _; omega
theorem ent_no {S : Bk} {k : Ky} (hh : hasL S.L k = false) (h : Ok S) : hasL (entB S).L k = false := by
  cases hq : hasL (entB S).L k with
  | false => rfl
  | true =>
    obtain ⟨q, hq1, hq2⟩ := has_iff.1 hq
    have := has_iff.2 ⟨q, (ok_ent h).2.2.2.subset hq1, hq2⟩
    rw [hh] at this; cases this
theorem ok_hit {S : Bk} (h : Ok S) {k : Ky} (hk : kw k) : Ok (hitB S k).1 := by
  by_cases hO : k ∈ S.O
  · unfold hitB; rw [if_pos hO]; exact h
  · cases hh : hasL S.L k with
    | true =>
      obtain ⟨r, hr⟩ := Option.isSome_iff_exists.1 (show (rowOf S.L k).isSome = true from hh)
      have h0 := cnt_ok h k
      have e : (hitB S k).1 = { S with L := putL S.L k (if hitC S k = S.thr then 0 else hitC S k) r.s } := by
        unfold hitB roomB hitS; rw [if_neg hO, if_pos hh, if_pos hh, (cnt_of hr).2.1]
      rw [e]
      refine ok_put_old h hr ?_
      have hc : hitC S k = cntL S.L k + 1 := by unfold hitC; rw [if_pos hh]
      have := h.thr
      rw [hc]
      split <;> omega
    | false =>
      obtain ⟨h1, h2, h3, h4⟩ := ok_ent h
      have e : (hitB S k).1 = { entB S with L := putL (entB S).L k (if hitC S k = S.thr then 0 else hitC S k) (S.ent + 1) } := by
        unfold hitB roomB hitS; rw [if_neg hO, hh]; rfl
      rw [e]
      refine ok_put_new h1 h2 (fun r hr => by have := h3 r hr; omega) (by show S.ent + 1 ≤ S.ent + 1; omega) hk (ent_no hh h) ?_
      have hc : hitC S k = 1 := by unfold hitC; rw [hh]; rfl
      have := h.thr
      show 0 ≤ _ ∧ _ < S.thr
      rw [hc]
      split <;> omega
end Go.Proofs.Ytjeddgjndpdhoaa
