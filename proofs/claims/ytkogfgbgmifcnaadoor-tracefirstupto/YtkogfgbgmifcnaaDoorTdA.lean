/-
  A walk over what links take: how it goes on, step by step: pure.
-/
import Derived.Test.YtkogfgbgmifcnaaDoorTcZ
namespace Go.Proofs.YtkogfgbgmifcnaaDoor
open Go.RowKit Go.Shelf Go.Maps Go.ChangeShapes
set_option linter.unusedVariables false
set_option linter.unusedSimpArgs false
theorem tell1P_cnt (st : List Bool × List Nat) (s : Sr) : (tell1P st s).2.length + (tell1P st s).1.count false = st.2.length + st.1.count false := by
  unfold tell1P
  by_cases h : s.k = 2 ∧ st.1[s.n.toNat]? = some false
  · rw [if_pos h]
    have := count_set h.2
    simp
    omega
  · rw [if_neg h]
theorem tellP_cnt (L : List Sr) : ∀ st, (tellP st L).2.length + (tellP st L).1.count false = st.2.length + st.1.count false := by
  induction L with
  | nil => intro st; simp [tellP]
  | cons s r ih => intro st; rw [tellP_cons, ih, tell1P_cnt]
theorem tell1P_len (st : List Bool × List Nat) (s : Sr) : (tell1P st s).1.length = st.1.length := by
  unfold tell1P
  split <;> simp
theorem tellP_len (L : List Sr) : ∀ st, (tellP st L).1.length = st.1.length := by
  induction L with
  | nil => intro st; simp [tellP]
  | cons s r ih => intro st; rw [tellP_cons, ih, tell1P_len]
theorem tell1P_lt {st : List Bool × List Nat} {s : Sr} {N : Nat} (hl : st.1.length = N) (h : ∀ v ∈ st.2, v < N) : ∀ v ∈ (tell1P st s).2, v < N := by
  unfold tell1P
  by_cases hc : s.k = 2 ∧ st.1[s.n.toNat]? = some false
  · rw [if_pos hc]
    intro v hv
    rcases List.mem_append.1 hv with hv | hv
    · exact h v hv
    · have := (List.getElem?_eq_some_iff.1 hc.2).1
      simp at hv
      omega
  · rw [if_neg hc]
    exact h
theorem tellP_lt {N : Nat} (L : List Sr) : ∀ st : List Bool × List Nat, st.1.length = N → (∀ v ∈ st.2, v < N) → ∀ v ∈ (tellP st L).2, v < N := by
  induction L with
  | nil => intro st hl h; simpa [tellP] using h
  | cons s r ih =>
    intro st hl h
    rw [tellP_cons]
    exact ih _ ((tell1P_len st s).trans hl) (tell1P_lt hl h)
theorem chainP_pre (L : List AE) : ∀ (f : Nat) (lm : List Bool) (st : List Bool × List Nat) (ys : List Sr) (n : Int), ys <+: (chainP L f lm st ys n).2.2 := by
  intro f
  induction f with
  | zero => intro lm st ys n; exact List.prefix_refl _
  | succ f ih =>
    intro lm st ys n
    rw [chainP]
    split
    · split
      · exact (List.prefix_append _ _).trans (ih _ _ _ _)
      · exact List.prefix_refl _
    · exact List.prefix_refl _
theorem virtsP_pre (V : List AE) : ∀ (f : Nat) (st : List Bool × List Nat) (ys : List Sr), ys <+: (virtsP V f st ys).2 := by
  intro f
  induction f with
  | zero => intro st ys; exact List.prefix_refl _
  | succ f ih =>
    rintro ⟨vm, wt⟩ ys
    rw [virtsP]
    split
    · exact List.prefix_refl _
    · split
      · exact (List.prefix_append _ _).trans (ih _ _)
      · exact List.prefix_refl _
/-- A link more. -/
theorem chainP_go {L : List AE} {f : Nat} {lm : List Bool} {st : List Bool × List Nat} {ys : List Sr} {n : Nat} {e : AE} (hl : lm[n]? = some false) (he : L[n]? = some e) : chainP L (f + 1) lm st ys n = chainP L f (lm.set n true) (tellP st e.l) (ys ++ e.l) (e.p.headD 0) := by
  rw [chainP, if_pos ⟨by omega, by simpa using hl⟩]
  simp only [Int.toNat_natCast, he]
theorem chainP_end {L : List AE} {f : Nat} {lm : List Bool} {st : List Bool × List Nat} {ys : List Sr} {n : Int} (h : ¬(0 ≤ n ∧ lm[n.toNat]? = some false)) : chainP L (f + 1) lm st ys n = (lm, st, ys) := by
  rw [chainP, if_neg h]
/-- A Virt more. -/
theorem virtsP_go {V : List AE} {f : Nat} {vm : List Bool} {wt : List Nat} {ys : List Sr} {v : Nat} {e : AE} (he : V[v]? = some e) : virtsP V (f + 1) (vm, wt ++ [v]) ys = virtsP V f (tellP (vm, wt) e.l) (ys ++ e.l) := by
  rw [virtsP]
  simp [he]
theorem virtsP_end {V : List AE} {f : Nat} {vm : List Bool} {ys : List Sr} : virtsP V (f + 1) (vm, []) ys = ((vm, []), ys) := by
  rw [virtsP]
  rfl
section
variable {G : List Sr → List Nat → World → Prop} {t : Tr} {l b1 wb lk vk qb yb : Nat} {pre : List Sr} {lm : List Bool} {O : List Nat} {W W' : World}
variable (hG : ∀ pre O O' W W', G pre O W → Fr O W W' → (∀ k ∈ O', k ∈ O ∨ W.heap.size ≤ k) → (∀ k ∈ O', k < W'.heap.size) → G pre O' W')
include hG
/-- A link is marked. -/
theorem TW.link {st : List Bool × List Nat} (h : TW G t l b1 wb lk vk qb yb pre lm st O W) (n : Nat) : TW G t l b1 wb lk vk qb yb pre (lm.set n true) st O (W.setCell ⟨lk, n, none⟩ (.bool true)) := by
  have f : Fr [lk] W (W.setCell ⟨lk, n, none⟩ (.bool true)) := Fr.setCell (Fr.refl _ _) (.inl (by simp)) _
  have hv : (W.setCell ⟨lk, n, none⟩ (.bool true)).heap[lk]? = some (.cells (bools (lm.set n true)) 4 (0, 0)) := by rw [← bools_set]; simp [World.setCell, Array.getElem?_modify, h.wk.lb]
  generalize W.setCell ⟨lk, n, none⟩ (.bool true) = Z at *
  have hlt : ∀ k ∈ O, k < Z.heap.size := fun k hm => Nat.lt_of_lt_of_le (h.ex k hm) f.size
  have nt : ∀ {k : Nat} {A : Array Value} {ty : TypeId}, W.heap[k]? = some (.cells A ty (0, 0)) → ty ≠ 4 → Z.heap[k]? = some (.cells A ty (0, 0)) := fun {k A ty} h1 hn => (f.block k (at_lt h1) (fun hm => by
    simp at hm
    subst hm
    rw [h.wk.lb] at h1
    simp at h1
    exact hn h1.2.symm)).trans h1
  obtain ⟨a, c, h1, h2, h3⟩ := h.row
  exact ⟨hG _ _ _ _ _ h.g (f.sub (fun k hk => by simp at hk; subst hk; exact .inl h.inO.2.1)) (fun k hk => .inl hk) hlt, h.inO, hlt, ⟨nt h.wk.blk (by decide), hv, (f.block _ (at_lt h.wk.vb) (by have := h.wk.ne; simp; exact fun e => this e.symm)).trans h.wk.vb, by have := h.wk.ll; simpa using this, h.wk.vl, h.wk.ne⟩, nt h.y (by decide), nt h.b (by decide),
    ⟨a, c, nt h1 (by decide), own_fr h2 f (fun k hk hm => by simp at hm; subst hm; exact own_ne h2 h.wk.lb (by decide) hk), h3⟩, h.cnt⟩
/-- The last one that waits goes. -/
theorem TW.pop {vm : List Bool} {wt : List Nat} {v : Nat} (h : TW G t l b1 wb lk vk qb yb pre lm (vm, wt ++ [v]) O W) :
    ∃ b c, W.heap[qb]? = some (.cells #[.slice (some ⟨b, 0, none⟩) (wt.length + 1) c] 27 (0, 0)) ∧ W.cell? ⟨b, wt.length, none⟩ = some (.int .i64 (v : Nat)) ∧ wt.length + 1 ≤ c ∧
      TW G t l b1 wb lk vk qb yb pre lm (vm, wt) O (W.setCell ⟨qb, 0, none⟩ (.slice (some ⟨b, 0, none⟩) wt.length c)) := by
  obtain ⟨a, c, h1, h2, h3⟩ := h.row
  simp only [List.length_append, List.length_cons, List.length_nil, Nat.zero_add] at h1 h2 h3
  obtain ⟨b, c', e, h4, _⟩ := own_cells h2 (j := wt.length) (x := .int .i64 (v : Nat)) (by simp)
  cases e
  have hc : wt.length + 1 ≤ c := by
    rcases h2.2 with ⟨h0, _⟩ | ⟨g', cap, cur, hv, _, _, hn, _⟩
    · cases h0
    · cases hv
      exact hn
  refine ⟨b, c, h1, h4, hc, ?_⟩
  have f : Fr [qb] W (W.setCell ⟨qb, 0, none⟩ (.slice (some ⟨b, 0, none⟩) wt.length c)) := Fr.setCell (Fr.refl _ _) (.inl (by simp)) _
  have hq := set_same (v := .slice (some ⟨b, 0, none⟩) wt.length c) h1
  generalize W.setCell ⟨qb, 0, none⟩ (.slice (some ⟨b, 0, none⟩) wt.length c) = Z at *
  have hlt : ∀ k ∈ O, k < Z.heap.size := fun k hm => Nat.lt_of_lt_of_le (h.ex k hm) f.size
  have nt : ∀ {k : Nat} {A : Array Value} {ty : TypeId}, W.heap[k]? = some (.cells A ty (0, 0)) → ty ≠ 27 → Z.heap[k]? = some (.cells A ty (0, 0)) := fun {k A ty} h5 hn => (f.block k (at_lt h5) (fun hm => by
    simp at hm
    subst hm
    rw [h1] at h5
    simp at h5
    exact hn h5.2.symm)).trans h5
  have ho := own_take (own_fr h2 f (fun k hk hm => by simp at hm; subst hm; exact own_ne h2 h1 (by decide) hk)) (m := wt.length) (by omega)
  refine ⟨hG _ _ _ _ _ h.g (f.sub (fun k hk => by simp at hk; subst hk; exact .inl h.inO.2.2.2.1)) (fun k hk => .inl hk) hlt, h.inO, hlt, ⟨nt h.wk.blk (by decide), nt h.wk.lb (by decide), nt h.wk.vb (by decide), h.wk.ll, h.wk.vl, h.wk.ne⟩, nt h.y (by decide), nt h.b (by decide),
    ⟨some ⟨b, 0, none⟩, c, hq, by simpa using ho, h3⟩, ?_⟩
  have := h.cnt
  simp at this
  simp
  omega
end
end Go.Proofs.YtkogfgbgmifcnaaDoor
