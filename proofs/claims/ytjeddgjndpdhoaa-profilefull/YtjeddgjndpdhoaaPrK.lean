/-
  The least row, by its place; what a book must be; condition: rows stand in the order of their coming in.
-/
import Derived.Test.YtjeddgjndpdhoaaPrJ
namespace Go.Proofs.Ytjeddgjndpdhoaa
open Go.RowKit Go.Shelf Go.Maps Go.ChangeShapes
set_option linter.unusedVariables false
set_option linter.unusedSimpArgs false

/-- The place of the least count, of several the first, among the first j. -/
def lsI (L : List Rw) : Nat → Nat
  | 0 => 0
  | j + 1 => match L[j]?, L[lsI L j]? with
    | some r, some q => if r.n < q.n then j else lsI L j
    | _, _ => lsI L j
theorem lsI_succ {L : List Rw} {j : Nat} {r q : Rw} (h1 : L[j]? = some r) (h2 : L[lsI L j]? = some q) : lsI L (j + 1) = if r.n < q.n then j else lsI L j := by
  simp only [lsI, h1, h2]
theorem lsI_min {L : List Rw} (hne : L ≠ []) : ∀ j, j ≤ L.length → ∃ r, L[lsI L j]? = some r ∧ lsI L j < L.length ∧ (∀ p q, p < j → L[p]? = some q → r.n ≤ q.n ∧ (p < lsI L j → r.n < q.n)) ∧ (0 < j → lsI L j < j)
  | 0, _ => by
    have hl : 0 < L.length := List.length_pos_iff.2 hne
    exact ⟨L[0], List.getElem?_eq_getElem hl, hl, fun p q hp _ => by omega, fun h => by omega⟩
  | j + 1, hj => by
    obtain ⟨r, hr, hlt, hall, hpos⟩ := lsI_min hne j (by omega)
    have hx : L[j]? = some (L[j]'(by omega)) := List.getElem?_eq_getElem (by omega)
    generalize L[j]'(by omega) = x at hx
    rw [lsI_succ hx hr]
    by_cases h : x.n < r.n
    · rw [if_pos h]
      refine ⟨x, hx, by omega, fun p q hp hq => ?_, fun _ => by omega⟩
      rcases Nat.lt_succ_iff_lt_or_eq.1 hp with h1 | h1
      · have := (hall p q h1 hq).1
        omega
      · subst h1
        rw [hx] at hq
        cases hq
        omega
    · rw [if_neg h]
      refine ⟨r, hr, hlt, fun p q hp hq => ?_, fun _ => by rcases Nat.eq_zero_or_pos j with e | e; (subst e; simp [lsI]); (have := hpos e; omega)⟩
      rcases Nat.lt_succ_iff_lt_or_eq.1 hp with h1 | h1
      · exact hall p q h1 hq
      · subst h1
        rw [hx] at hq
        cases hq
        refine ⟨by omega, fun h2 => ?_⟩
        rcases Nat.eq_zero_or_pos p with e | e
        · subst e; simp [lsI] at h2
        · have := hpos e; omega
/-- What a book must be. -/
structure Ok (S : Bk) : Prop where
  nd : Nd S.L
  kw : ∀ r ∈ S.L, kw r.k
  len : S.L.length ≤ 1000
  ord : S.L.Pairwise (fun a b => a.s < b.s)
  top : ∀ r ∈ S.L, r.s ≤ S.ent
  cnt : ∀ r ∈ S.L, 0 ≤ r.n ∧ r.n < S.thr
  thr : 1 ≤ S.thr ∧ S.thr ≤ 9223372036854775807
  ent : 0 ≤ S.ent
theorem ord_eq {L : List Rw} (h : L.Pairwise (fun a b => a.s < b.s)) {q r : Rw} (hq : q ∈ L) (hr : r ∈ L) (e : q.s = r.s) : q = r := by
  induction L with
  | nil => simp at hq
  | cons x L ih =>
    obtain ⟨h1, h2⟩ := List.pairwise_cons.1 h
    rcases List.mem_cons.1 hq with e1 | hq'
    · rcases List.mem_cons.1 hr with e2 | hr'
      · rw [e1, e2]
      · have := h1 r hr'; rw [e1] at e; omega
    · rcases List.mem_cons.1 hr with e2 | hr'
      · have := h1 q hq'; rw [e2] at e; omega
      · exact ih h2 hq' hr'
theorem least_is {L : List Rw} (ho : L.Pairwise (fun a b => a.s < b.s)) {r : Rw} (hr : r ∈ L) (hmin : ∀ q ∈ L, ¬ lexLt q.n q.s r.n r.s) : L[lsI L L.length]? = some r := by
  have hne : L ≠ [] := by rintro rfl; simp at hr
  obtain ⟨x, hx, hlt, hall, _⟩ := lsI_min hne L.length (Nat.le_refl _)
  rw [hx]
  congr 1
  have hxm : x ∈ L := List.mem_of_getElem? hx
  have h1 := hmin x hxm
  obtain ⟨p, hp⟩ := List.getElem?_of_mem hr
  have hpl : p < L.length := (List.getElem?_eq_some_iff.1 hp).1
  obtain ⟨h2, h3⟩ := hall p r hpl hp
  refine ord_eq ho hxm hr ?_
  unfold lexLt at h1
  rcases Nat.lt_trichotomy p (lsI L L.length) with e | e | e
  · have := h3 e; omega
  · rw [e, hx] at hp; cases hp; rfl
  · have : x.s < r.s := by
      have := List.pairwise_iff_getElem.1 ho (lsI L L.length) p hlt hpl e
      rw [(List.getElem?_eq_some_iff.1 hx).2, (List.getElem?_eq_some_iff.1 hp).2] at this
      exact this
    omega
theorem del_erase {L : List Rw} (h : Nd L) {i : Nat} {r : Rw} (hr : L[i]? = some r) : delL L r.k = L.eraseIdx i := by
  induction L generalizing i with
  | nil => simp at hr
  | cons x L ih =>
    obtain ⟨h1, h2⟩ := List.pairwise_cons.1 h
    cases i with
    | zero =>
      simp at hr
      subst hr
      have : hasL L x.k = false := by
        cases hh : hasL L x.k with
        | false => rfl
        | true => obtain ⟨q, hq, e⟩ := has_iff.1 hh; exact absurd e.symm (h1 q hq)
      have e2 : delL (x :: L) x.k = delL L x.k := by unfold delL; rw [List.filter_cons_of_neg (by simp)]
      rw [e2, del_of_not this]
      rfl
    | succ i =>
      have hr' : L[i]? = some r := by simpa using hr
      have hne := h1 r (List.mem_of_getElem? hr')
      have e2 : delL (x :: L) r.k = x :: delL L r.k := by unfold delL; rw [List.filter_cons_of_pos (by simp [hne])]
      rw [e2, ih h2 hr']
      rfl
def lsK (L : List Rw) : Ky := ((L[lsI L L.length]?).map (·.k)).getD k0
theorem lsK_mem {L : List Rw} (hne : L ≠ []) : ∃ r ∈ L, r.k = lsK L ∧ L[lsI L L.length]? = some r := by
  obtain ⟨x, hx, _⟩ := lsI_min hne L.length (Nat.le_refl _)
  exact ⟨x, List.mem_of_getElem? hx, by simp [lsK, hx], hx⟩
theorem least_key {w : World} {mb : Nat} {L : List Rw} (h : CM w mb L) (hn : Nd L) (hw : ∀ r ∈ L, kw r.k) (ho : L.Pairwise (fun a b => a.s < b.s)) (hne : L ≠ []) :
    Calls Try.prog 27 #[.map (some mb), .func (.func 28) #[] #[]] w fun e w' => e = .returned (.agg (kc (lsK L))) ∧ Fr [] w w' :=
  (least_any h hn hw hne).mono fun e w' ⟨r, hr, e1, hmin, f⟩ => ⟨by rw [e1]; simp [lsK, least_is ho hr hmin], f⟩
end Go.Proofs.Ytjeddgjndpdhoaa
