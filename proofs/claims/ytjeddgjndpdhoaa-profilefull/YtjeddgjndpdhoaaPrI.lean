/-
  The least of what is counted, by the program; condition: no key stands twice.
-/
import Derived.Test.YtjeddgjndpdhoaaPrH
namespace Go.Proofs.Ytjeddgjndpdhoaa
open Go.RowKit Go.Shelf Go.Maps Go.ChangeShapes
set_option linter.unusedVariables false
set_option linter.unusedSimpArgs false

def lexLt (n s n' s' : Int) : Prop := n < n' ∨ (n = n' ∧ s < s')
theorem lex_iff (n s n' s' : Int) : orI (cmpI n n') (cmpI s s') < 0 ↔ lexLt n s n' s' := by
  unfold orI cmpI lexLt
  by_cases h1 : n < n'
  · simp [h1]
  · by_cases h2 : n' < n
    · simp [h1, h2]; omega
    · have h3 : n = n' := by omega
      subst h3
      by_cases h4 : s < s'
      · simp [h4]
      · by_cases h5 : s' < s <;> simp [h4, h5]
theorem row_of_mem {L : List Rw} (h : Nd L) {q : Rw} (hq : q ∈ L) : rowOf L q.k = some q := by
  induction L with
  | nil => simp at hq
  | cons r L ih =>
    obtain ⟨h1, h2⟩ := List.pairwise_cons.1 h
    rw [rowOf_cons]
    rcases List.mem_cons.1 hq with rfl | hq
    · simp
    · rw [if_neg (h1 q hq)]
      exact ih h2 hq
theorem nd_eq {L : List Rw} (h : Nd L) {q r : Rw} (hq : q ∈ L) (hr : r ∈ L) (e : q.k = r.k) : q = r := by
  have h1 := row_of_mem h hq
  rw [e, row_of_mem h hr] at h1
  exact (Option.some.inj h1).symm
/-- How far the least has been found. -/
def Lst (L : List Rw) (left : Lit → Bool) (fb : Bool) (k : Ky) (n s : Int) : Prop :=
  (fb = true ∧ ∀ q ∈ L, left (kl q.k) = true) ∨ (fb = false ∧ ∃ r ∈ L, r.k = k ∧ r.n = n ∧ r.s = s ∧ ∀ q ∈ L, left (kl q.k) = false → ¬ lexLt q.n q.s n s)
theorem left_step {left : Lit → Bool} {l m : Lit} (h : (left l && !l.sameKey m) = false) : left l = false ∨ l = m := by
  cases hl : left l with
  | false => exact .inl rfl
  | true =>
    rw [hl] at h
    simp at h
    exact .inr (WideAt.sameKey_eq h)
theorem Lst.take {L : List Rw} {left : Lit → Bool} {fb : Bool} {k : Ky} {n s : Int} (hn : Nd L) (hw : ∀ r ∈ L, kw r.k) (h : Lst L left fb k n s) {q : Rw} (hq : q ∈ L) (hlt : fb = true ∨ lexLt q.n q.s n s) : Lst L (fun z => left z && !z.sameKey (kl q.k)) false q.k q.n q.s := by
  refine .inr ⟨rfl, q, hq, rfl, rfl, rfl, fun p hp hpl => ?_⟩
  rcases left_step hpl with h1 | h1
  · rcases h with ⟨rfl, h2⟩ | ⟨rfl, r, hr, e1, e2, e3, h2⟩
    · rw [h2 p hp] at h1; cases h1
    · have h3 := h2 p hp h1
      rcases hlt with h4 | h4
      · cases h4
      · unfold lexLt at *; omega
  · have e := nd_eq hn hp hq (kl_inj (hw p hp) (hw q hq) h1)
    subst e
    unfold lexLt; omega
theorem Lst.pass {L : List Rw} {left : Lit → Bool} {k : Ky} {n s : Int} (hn : Nd L) (hw : ∀ r ∈ L, kw r.k) (h : Lst L left false k n s) {q : Rw} (hq : q ∈ L) (hlt : ¬ lexLt q.n q.s n s) : Lst L (fun z => left z && !z.sameKey (kl q.k)) false k n s := by
  rcases h with ⟨h0, _⟩ | ⟨_, r, hr, e1, e2, e3, h2⟩
  · cases h0
  · refine .inr ⟨rfl, r, hr, e1, e2, e3, fun p hp hpl => ?_⟩
    rcases left_step hpl with h1 | h1
    · exact h2 p hp h1
    · have e := nd_eq hn hp hq (kl_inj (hw p hp) (hw q hq) h1)
      subst e
      exact hlt
section
variable {w : World} {ops : Array Oper} {rest : List Oper} {o : Oper} {a : Act} {Q : Exit → Act → World → Prop}
theorem next_row (hg : o.guard = none) (it : Operand) (hop : o.op = Op.next it false) {mb ib n cnt : Nat} {L : List Rw} (hn : Nd L) {D : DataW Unit} {left : Lit → Bool}
    (hE : ∀ l, Maps.has D l = true → ∃ r ∈ L, kw r.k ∧ l = kl r.k) (hD : ∀ k, kw k → Maps.has D (kl k) = hasL L k ∧ D.atKey (kl k) (tdt 0 0) = tdt (cntL L k) (sncL L k))
    (hit : a.eval it = .pointer (some ⟨ib, 0, none⟩)) (h : w.ranges Try.prog 28 tElem mb ib n D left cnt)
    (hDone : (∀ l, left l = false) → wpList Try.prog ops Q rest (a.put o.dst (.tuple #[.bool false])) w)
    (hMore : ∀ (q : Rw) (w' : World) (cnt' : Nat), q ∈ L → kw q.k → left (kl q.k) = true → w'.ranges Try.prog 28 tElem mb ib n D (fun z => left z && !z.sameKey (kl q.k)) cnt' → cnt' < cnt → w.grownBy w' (some ib) → w'.heap.size = w.heap.size →
      (Instr.entry (.pointer (some ⟨ib, 0, none⟩))).run Try.prog w' = .ok (.tuple #[.agg (kc q.k), .agg #[.int .i64 q.n, .int .i64 q.s]]) w' → wpList Try.prog ops Q rest (a.put o.dst (.tuple #[.bool true, .agg (kc q.k), .agg #[.int .i64 q.n, .int .i64 q.s]])) w') :
    wpList Try.prog ops Q (o :: rest) a w := by
  refine wpList_plain hg fun K' hK' => ?_
  unfold Oper.wp
  rcases h.next law28 o.type with ⟨h0, hl, hrun⟩ | ⟨key, v, l, y, w', cnt', hkey, hlk, hv, hat, hrun, hrg, hlt, hgr, hsz, hen⟩
  · simp [execOp, hop, hit, hrun, Result.andThen]
    exact hK' _ _ (hDone hl)
  · obtain ⟨q, hq, hqk, rfl⟩ := hE l (has_true_of_atKey hat)
    have ek : key = kv q.k := law28.inj hkey (keyOf28 q.k hqk)
    subst ek
    obtain ⟨n', s', rfl, e⟩ := tElem_inv hv
    have e1 := hat (tdt 0 0)
    rw [(hD q.k hqk).2, (Prod.mk.inj e).1] at e1
    obtain ⟨e2, e3⟩ := tdt_inj e1
    obtain ⟨f1, f2, _⟩ := cnt_of (row_of_mem hn hq)
    have e4 : n' = q.n := by rw [← e2, f1]
    have e5 : s' = q.s := by rw [← e3, f2]
    subst e4 e5
    unfold kv tv at hrun hen
    simp [execOp, hop, hit, hrun, Result.andThen]
    exact hK' _ _ (hMore q w' cnt' hq hqk hlk hrg hlt hgr hsz hen)
end
end Go.Proofs.Ytjeddgjndpdhoaa
