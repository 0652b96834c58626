/-
  A heap that New made and the reference's one beside each other in memory, with the same things: each side's writes keep the other's; no condition.
-/
import Derived.Test.YtndjoklinccfjaaHeapZc
namespace Go.Proofs.Ytndjoklinccfjaa
open Go.RowKit

/-- Both heaps, with the same things, limit, taken cells and root. -/
structure JI (w : World) (B b r : Nat) (lim used rk rn : Int) (sv sr : Value) (T : List Thing) (U : List RT) : Prop where
  R : Rep w B b lim used sv rk rn T
  Q : RRep w B r lim used sr rk rn U
  same : T.map Thing.abs = U.map RT.abs
  apart : ∀ t, t ∈ T → ∀ u, u ∈ U → u.sl.ownBlock ≠ some t.rb
  sorts : Sorts U
  hl : 0 ≤ lim
  hu : 0 ≤ used
  hul : used ≤ lim
  hlm : lim ≤ 10000000

theorem JI.len {w : World} {B b r : Nat} {lim used rk rn : Int} {sv sr : Value} {T : List Thing} {U : List RT} (h : JI w B b r lim used rk rn sv sr T U) : T.length = U.length := by
  have := congrArg List.length h.same
  simpa using this

theorem JI.frame {S : List Nat} {w w' : World} {B b r : Nat} {lim used rk rn : Int} {sv sr : Value} {T : List Thing} {U : List RT} (h : JI w B b r lim used rk rn sv sr T U) (f : Fr S w w') (hS : ∀ k, k ∈ S → w.heap.size ≤ k) : JI w' B b r lim used rk rn sv sr T U :=
  ⟨h.R.frame f hS, h.Q.frame f hS, h.same, h.apart, h.sorts, h.hl, h.hu, h.hul, h.hlm⟩

/-- What the code's heap writes to is nothing of the reference's: its own block and its list of things. -/
theorem past_code {w : World} {B b r : Nat} {lim used lim' used' rk rn rk' rn' : Int} {sv sr : Value} {T : List Thing} {U : List RT} (R : Rep w B b lim used sv rk rn T) (Q : RRep w B r lim' used' sr rk' rn' U) : ∀ k, k ∈ rfoot r sr U → k ∉ b :: sv.ownBlock.toList := by
  intro k hk hm
  unfold rfoot at hk
  simp only [List.mem_cons, List.mem_append, Option.mem_toList, List.mem_flatMap] at hk hm
  rcases hm with rfl | hm
  · rcases hk with rfl | hk | ⟨u, hu, hk⟩
    · have e := Q.hb
      unfold RH at e
      have e2 := R.hb
      unfold HB at e2
      rw [e] at e2
      simp at e2
    · exact own_ne Q.row R.hb (by decide) hk
    · exact own_ne (Q.th u hu) R.hb (by decide) hk
  · rcases hk with rfl | hk | ⟨u, hu, hk⟩
    · exact own_ne R.row Q.hb (by decide) hm
    · exact own_ne2 R.row Q.row (by decide) k hm hk
    · exact own_ne2 R.row (Q.th u hu) (by decide) k hm hk

/-- Writes that are none of a heap's blocks leave it as it is. -/
theorem Rep.keeps {S : List Nat} {w w' : World} {B b : Nat} {lim used : Int} {sv : Value} {rk rn : Int} {T : List Thing} (R : Rep w B b lim used sv rk rn T) (f : Fr S w w') (h1 : b ∉ S) (h2 : ∀ k, sv.ownBlock = some k → k ∉ S) (h3 : ∀ t, t ∈ T → t.tb ∉ S ∧ t.rb ∉ S) : Rep w' B b lim used sv rk rn T :=
  ⟨R.hb.fr f h1, own_fr R.row f h2, fun t ht => (R.th t ht).fr f (h3 t ht).1 (h3 t ht).2, R.sep, R.base, R.rows⟩

/-- The reference's block and list of things are nothing of the code's. -/
theorem past_ref {S : List Nat} {w w' : World} {B b r : Nat} {lim used lim' used' rk rn rk' rn' : Int} {sv sr : Value} {T : List Thing} {U : List RT} (R : Rep w B b lim used sv rk rn T) (Q : RRep w B r lim' used' sr rk' rn' U) (f : Fr S w w') (hS : ∀ k, k ∈ S → k ∈ r :: sr.ownBlock.toList ∨ w.heap.size ≤ k) : Rep w' B b lim used sv rk rn T := by
  have key : ∀ {k : Nat} {c : Array Value} {e : TypeId} {z : Nat × Nat}, w.heap[k]? = some (.cells c e z) → e ≠ 38 → e ≠ 40 → k ∉ S := by
    intro k c e z hk h1 h2 hm
    have hlt := (Array.getElem?_eq_some_iff.1 hk).1
    rcases hS k hm with hm | hm
    · simp only [List.mem_cons, Option.mem_toList] at hm
      rcases hm with rfl | hm
      · exact Q.hb.ne_of hk h1 rfl
      · exact own_ne Q.row hk h2 hm
    · omega
  refine R.keeps f (key R.hb (by decide) (by decide)) ?_ ?_
  · intro k hk
    rcases R.row.2 with ⟨e, _⟩ | ⟨g, cap, cur, e, _, hgg, _⟩
    · rw [e] at hk; simp [Value.ownBlock] at hk
    · rw [e] at hk
      simp [Value.ownBlock] at hk
      subst hk
      exact key hgg (by decide) (by decide)
  · intro t ht
    refine ⟨?_, key (R.th t ht).row (by decide) (by decide)⟩
    have h1 := (R.th t ht).own
    unfold Thing.body at h1
    split at h1
    · exact key h1 (by decide) (by decide)
    · exact key h1 (by decide) (by decide)

/-- Both sides have laid a thing alike. -/
theorem JI.push {w w1 w2 : World} {B b r : Nat} {lim used used' rk rn : Int} {sv sr sv' sr' : Value} {T : List Thing} {U : List RT} {t : Thing} {u : RT} (h : JI w B b r lim used rk rn sv sr T U) (hu' : 0 ≤ used') (hul' : used' ≤ lim)
    (R1 : Rep w1 B b lim used' sv' rk rn (T ++ [t])) (f1 : Fr (b :: sv.ownBlock.toList) w w1) (ht : w.heap.size ≤ t.rb)
    (Q2 : RRep w2 B r lim used' sr' rk rn (U ++ [u])) (f2 : Fr (r :: sr.ownBlock.toList) w1 w2) (hu : ∀ k, u.sl.ownBlock = some k → w1.heap.size ≤ k) (e1 : t.abs = u.abs) (hs : -1 ≤ u.sort) : JI w2 B b r lim used' rk rn sv' sr' (T ++ [t]) (U ++ [u]) := by
  have Q1 : RRep w1 B r lim used sr rk rn U := h.Q.fr f1 (past_code h.R h.Q)
  refine ⟨past_ref R1 Q1 f2 (fun k hk => .inl hk), Q2, ?_, ?_, ?_, h.hl, hu', hul', h.hlm⟩
  · rw [List.map_append, List.map_append, h.same]
    simp [e1]
  · intro t' ht' u' hu'
    rcases List.mem_append.1 ht' with ht' | ht' <;> rcases List.mem_append.1 hu' with hu' | hu'
    · exact h.apart t' ht' u' hu'
    · simp at hu'
      subst hu'
      intro e
      have a1 := hu _ e
      have a2 := h.R.lt t'.rb (by unfold foot; simp only [List.mem_cons, List.mem_append, List.mem_map]; exact .inr (.inr ⟨t', ht', rfl⟩))
      have a3 := f1.size
      omega
    · simp at ht'
      subst ht'
      intro e
      have a1 := h.Q.lt _ (mem_flatMap_own hu' e r sr)
      omega
    · simp at ht' hu'
      subst ht' hu'
      intro e
      have a1 := hu _ e
      have a2 := R1.lt t'.rb (by unfold foot; simp)
      omega
  · intro v hv
    rcases List.mem_append.1 hv with hv | hv
    · exact h.sorts v hv
    · simp at hv
      subst hv
      exact hs
end Go.Proofs.Ytndjoklinccfjaa
