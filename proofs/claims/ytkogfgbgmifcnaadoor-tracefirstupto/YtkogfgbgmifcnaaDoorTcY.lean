/-
  A teller at work: what stands while what a link takes is told, source by source.
-/
import Derived.Test.YtkogfgbgmifcnaaDoorTcU
namespace Go.Proofs.YtkogfgbgmifcnaaDoor
open Go.RowKit Go.Shelf Go.Maps Go.ChangeShapes
set_option linter.unusedVariables false
set_option linter.unusedSimpArgs false
theorem own_same {w w' : World} {B n : Nat} {e : TypeId} {size : Nat} {v : Value} {xs : List Value} (h : w.ownsRow B e size v n xs) (hb : ∀ k, v.ownBlock = some k → w'.heap[k]? = w.heap[k]?) : w'.ownsRow B e size v n xs :=
  ⟨h.1, h.2.imp id fun ⟨g, cap, cur, hv, hb', hg, r⟩ => ⟨g, cap, cur, hv, hb', (hb g (by rw [hv]; rfl)).trans hg, r⟩⟩
/-- One source told. -/
def tell1P (st : List Bool × List Nat) (s : Sr) : List Bool × List Nat := if s.k = 2 ∧ st.1[s.n.toNat]? = some false then (st.1.set s.n.toNat true, st.2 ++ [s.n.toNat]) else st
theorem tellP_cons (st : List Bool × List Nat) (s : Sr) (r : List Sr) : tellP st (s :: r) = tellP (tell1P st s) r := by
  obtain ⟨vm, wt⟩ := st
  rw [tellP, tell1P]
theorem tellP_snoc (L : List Sr) (s : Sr) : ∀ st, tellP st (L ++ [s]) = tell1P (tellP st L) s := by
  induction L with
  | nil =>
    intro st
    rw [List.nil_append, tellP_cons]
    simp [tellP]
  | cons x r ih =>
    intro st
    rw [List.cons_append, tellP_cons, tellP_cons, ih]
theorem count_set {vm : List Bool} {n : Nat} (h : vm[n]? = some false) : (vm.set n true).count false + 1 = vm.count false := by
  induction vm generalizing n with
  | nil => simp at h
  | cons b r ih =>
    cases n with
    | zero =>
      simp at h
      subst h
      simp [List.count_cons]
    | succ n =>
      simp at h
      have := ih h
      simp only [List.set_cons_succ, List.count_cons]
      omega
/-- A teller in memory. -/
structure TW (G : List Sr → List Nat → World → Prop) (t : Tr) (l b1 wb lk vk qb yb : Nat) (pre : List Sr) (lm : List Bool) (st : List Bool × List Nat) (O : List Nat) (W : World) : Prop where
  g : G pre O W
  inO : wb ∈ O ∧ lk ∈ O ∧ vk ∈ O ∧ qb ∈ O ∧ yb ∈ O ∧ b1 ∈ O
  ex : ∀ k ∈ O, k < W.heap.size
  wk : WK W wb lk vk t ⟨lm, st.1⟩
  y : W.heap[yb]? = some (.cells #[.func (.yield l) #[] #[]] 96 (0, 0))
  b : W.heap[b1]? = some (.cells #[.pointer (some ⟨wb, 0, none⟩)] 97 (0, 0))
  row : ∃ a c, W.heap[qb]? = some (.cells #[.slice a st.2.length c] 27 (0, 0)) ∧ W.ownsRow 0 3 1 (.slice a st.2.length c) st.2.length (st.2.map fun n => Value.int .i64 (n : Nat)) ∧ ∀ k, (Value.slice a st.2.length c).ownBlock = some k → k ∈ O
  cnt : st.2.length + st.1.count false ≤ t.virts.length
section
variable {G : List Sr → List Nat → World → Prop} {t : Tr} {l b1 wb lk vk qb yb : Nat} {pre : List Sr} {lm : List Bool} {st : List Bool × List Nat} {O : List Nat} {W W' : World}
theorem TW.told {x : Sr} (h : TW G t l b1 wb lk vk qb yb pre lm st O W) (g : G (pre ++ [x]) O W') (hs : W.heap.size ≤ W'.heap.size) (hk : ∀ k ∈ O, k < W.heap.size → W'.heap[k]? = W.heap[k]?) : TW G t l b1 wb lk vk qb yb (pre ++ [x]) lm st O W' := by
  have e : ∀ k ∈ O, W'.heap[k]? = W.heap[k]? := fun k hm => hk k hm (h.ex k hm)
  obtain ⟨a, c, h1, h2, h3⟩ := h.row
  exact ⟨g, h.inO, fun k hm => Nat.lt_of_lt_of_le (h.ex k hm) hs, ⟨(e _ h.inO.1).trans h.wk.blk, (e _ h.inO.2.1).trans h.wk.lb, (e _ h.inO.2.2.1).trans h.wk.vb, h.wk.ll, h.wk.vl, h.wk.ne⟩, (e _ h.inO.2.2.2.2.1).trans h.y, (e _ h.inO.2.2.2.2.2).trans h.b,
    ⟨a, c, (e _ h.inO.2.2.2.1).trans h1, own_same h2 (fun k hk => e k (h3 k hk)), h3⟩, h.cnt⟩
variable (hG : ∀ pre O O' W W', G pre O W → Fr O W W' → (∀ k ∈ O', k ∈ O ∨ W.heap.size ≤ k) → (∀ k ∈ O', k < W'.heap.size) → G pre O' W')
include hG
theorem TW.fr0 (h : TW G t l b1 wb lk vk qb yb pre lm st O W) (f : Fr [] W W') : TW G t l b1 wb lk vk qb yb pre lm st O W' := by
  have hlt : ∀ k ∈ O, k < W'.heap.size := fun k hm => Nat.lt_of_lt_of_le (h.ex k hm) f.size
  have e : ∀ k ∈ O, W'.heap[k]? = W.heap[k]? := fun k hm => f.block k (h.ex k hm) (by simp)
  obtain ⟨a, c, h1, h2, h3⟩ := h.row
  exact ⟨hG _ _ _ _ _ h.g (f.sub (by simp)) (fun k hk => .inl hk) hlt, h.inO, hlt, h.wk.fr0 f, (e _ h.inO.2.2.2.2.1).trans h.y, (e _ h.inO.2.2.2.2.2).trans h.b,
    ⟨a, c, (e _ h.inO.2.2.2.1).trans h1, own_same h2 (fun k hk => e k (h3 k hk)), h3⟩, h.cnt⟩
/-- A Virt is marked, and waits. -/
theorem TW.push {n : Nat} (h : TW G t l b1 wb lk vk qb yb pre lm st O W) (hn : st.1[n]? = some false) {a1 : Option Addr} {c1 : Nat} (f : Fr O W W') (hv : W'.heap[vk]? = some (.cells (bools (st.1.set n true)) 4 (0, 0)))
    (hw : W'.heap[wb]? = W.heap[wb]?) (hl : W'.heap[lk]? = W.heap[lk]?) (hy : W'.heap[yb]? = W.heap[yb]?) (hb : W'.heap[b1]? = W.heap[b1]?)
    (hq : W'.heap[qb]? = some (.cells #[.slice a1 (st.2.length + 1) c1] 27 (0, 0))) (ho : W'.ownsRow 0 3 1 (.slice a1 (st.2.length + 1) c1) (st.2.length + 1) ((st.2.map fun n => Value.int .i64 (n : Nat)) ++ [Value.int .i64 (n : Nat)]))
    (hown : ∀ k, (Value.slice a1 (st.2.length + 1) c1).ownBlock = some k → k ∈ O ∨ W.heap.size ≤ k) :
    ∃ O', TW G t l b1 wb lk vk qb yb pre lm (st.1.set n true, st.2 ++ [n]) O' W' := by
  refine ⟨(Value.slice a1 (st.2.length + 1) c1).ownBlock.toList ++ O, hG _ _ _ _ _ h.g f (fun k hk => ?_) ?_, ?_, ?_, ⟨hw.trans h.wk.blk, hl.trans h.wk.lb, hv, h.wk.ll, by simpa using h.wk.vl, h.wk.ne⟩, hy.trans h.y, hb.trans h.b, ⟨a1, c1, by simpa using hq, by simpa using ho, fun k hk => by simp at hk; simp [hk]⟩, ?_⟩
  · rcases List.mem_append.1 hk with hk | hk
    · exact hown k (by simpa using hk)
    · exact .inl hk
  · intro k hk
    rcases List.mem_append.1 hk with hk | hk
    · exact (ho.lt k (by simpa using hk)).2
    · exact Nat.lt_of_lt_of_le (h.ex k hk) f.size
  · obtain ⟨x1, x2, x3, x4, x5, x6⟩ := h.inO
    simp [x1, x2, x3, x4, x5, x6]
  · intro k hk
    rcases List.mem_append.1 hk with hk | hk
    · exact (ho.lt k (by simpa using hk)).2
    · exact Nat.lt_of_lt_of_le (h.ex k hk) f.size
  · have := count_set hn
    have := h.cnt
    simp
    omega
end
end Go.Proofs.YtkogfgbgmifcnaaDoor
