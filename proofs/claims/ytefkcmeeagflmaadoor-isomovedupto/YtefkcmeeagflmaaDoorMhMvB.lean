/-
  What IsoMoved lays down: the order, and the things in another order; told in memory and purely; no condition.
-/
import Derived.Test.YtefkcmeeagflmaaDoorMhMovA
import Derived.Test.YtefkcmeeagflmaaDoorMgDNND
import Derived.Deep.OwnRows
namespace Go.Proofs.YtefkcmeeagflmaaDoor
open Go.RowKit
set_option linter.unusedVariables false
set_option linter.unusedSimpArgs false

theorem hidM {p : Prop} (h : p) : Hid p := h
theorem under39 : Tryd.prog.underlying 39 = some (.slice 3) := by kernel_rfl
theorem info3 : (Tryd.prog.info? 3).map (fun i => (i.zero, i.size, i.bytes)) = some (some (.int .i64 0), 1, 8) := by kernel_rfl
theorem row_fr {w w' : World} {S : List Nat} {b n : Nat} {t : TypeId} {f : Nat → Value} (h : w.rowIs b t n f) (g : Fr S w w') (hS : b ∉ S) : w'.rowIs b t n f := h.of_block (g.block _ h.lt hS)
theorem row_own {w : World} {b n : Nat} {f : Nat → Value} (h : w.rowIs b 3 n f) (hn : n ≤ 1000) : w.ownsRow b 3 1 (.slice (some ⟨b, 0, none⟩) n n) n ((List.range n).map f) := by
  obtain ⟨c, hc, hs, hf⟩ := h
  refine ⟨by simp, .inr ⟨b, n, c, rfl, Nat.le_refl _, hc, Nat.le_refl _, by unfold maxLen; omega, by omega, ?_⟩⟩
  apply List.ext_getElem?
  intro i
  by_cases hi : i < n
  · rw [List.getElem?_take_of_lt (by omega)]
    have := hf i hi
    simp [hi, ← this]
  · rw [List.getElem?_eq_none (by simp; omega), List.getElem?_eq_none (by simp; omega)]

theorem wf_thousand {z : Int} (h0 : 0 ≤ z) (h1 : z ≤ 1000) : (Lit.int .i64 z).wf = true := by
  have e : IntKind.i64.min = -9223372036854775808 := by decide
  simp [Lit.wf, e]
  omega

theorem mv_wf {n : Nat} {σ τ : Nat → Nat} (hO : Ord n σ τ) (hn : n ≤ 1000) {xs : List (Int × Int)} (h : ∀ c, c ∈ xs → (Lit.int .i64 c.2).wf = true) : ∀ c, c ∈ xs.map (mvV n σ) → (Lit.int .i64 c.2).wf = true := by
  intro c hc
  rw [List.mem_map] at hc
  obtain ⟨d, hd, rfl⟩ := hc
  unfold mvV
  split
  · rename_i hh
    have h1 := (hO.fwd d.2.toNat (by omega)).1
    exact wf_thousand (by simp) (by simp; omega)
  · exact h d hd
theorem own_lies0 {w : World} {B n c : Nat} {a : Option Addr} {xs : List (Int × Int)} (h : w.ownsRow B 45 2 (.slice a n c) n (flat xs)) (hl : xs.length = n) : Lies w a xs := by
  intro hp
  obtain ⟨g, c', e1, hl'⟩ := own_lies h (by omega)
  injection e1 with e1 e3 e4
  rw [e1]
  exact hl' hp

/-- Sums over another order are no greater. -/
theorem inj_sum (g : Nat → Nat) : ∀ (l : List Nat), l.Nodup → ∀ l2 : List Nat, (∀ x, x ∈ l → x ∈ l2) → (l.map g).sum ≤ (l2.map g).sum
  | [], _, l2, _ => by simp
  | a :: r, hn, l2, hs => by
    have hp := List.perm_cons_erase (hs a (by simp))
    have e := (hp.map g).sum_nat
    rw [List.nodup_cons] at hn
    have ih := inj_sum g r hn.2 (l2.erase a) (fun x hx => (List.mem_erase_of_ne (fun (e : x = a) => hn.1 (by rw [← e]; exact hx))).2 (hs x (by simp [hx])))
    rw [e]
    simp only [List.map_cons, List.sum_cons]
    omega
theorem ord_sum {n : Nat} {σ τ : Nat → Nat} (h : Ord n σ τ) (g : Nat → Nat) : ((List.range n).map (fun y => g (τ y))).sum ≤ ((List.range n).map g).sum := by
  have := inj_sum g ((List.range n).map τ) ?_ (List.range n) ?_
  · rwa [List.map_map] at this
  · unfold List.Nodup
    rw [List.pairwise_map]
    refine List.Pairwise.imp_of_mem ?_ List.pairwise_lt_range
    intro x y hx hy hlt e
    have h1 := (h.bwd x (by simpa using hx)).2
    have h2 := (h.bwd y (by simpa using hy)).2
    rw [e, h2] at h1
    omega
  · intro x hx
    simp only [List.mem_map, List.mem_range] at hx ⊢
    obtain ⟨y, hy, rfl⟩ := hx
    exact (h.bwd y hy).1

theorem totO_sum : ∀ (L : List OR), totO L = (L.map (fun x => x.m + 1)).sum
  | [] => rfl
  | x :: r => by simp only [totO, List.map_cons, List.sum_cons, totO_sum r]
theorem sum_range {n : Nat} (L : List OR) (hL : L.length = n) (g : Nat → Nat) (hg : ∀ j x, L[j]? = some x → g j = x.m + 1) : ((List.range n).map g).sum = totO L := by
  rw [totO_sum]
  congr 1
  apply List.ext_getElem?
  intro i
  by_cases hi : i < n
  · have hx : L[i]? = some (L[i]'(by omega)) := List.getElem?_eq_getElem _
    simp only [List.getElem?_map, hx, List.getElem?_range hi, Option.map_some, hg i _ hx]
  · rw [List.getElem?_eq_none (by simp; omega), List.getElem?_eq_none (by simp; omega)]

/-- The first i things of L, laid into the row at km in the order σ. -/
def MV (w : World) (km n : Nat) (σ : Nat → Nat) (L : List OR) (i : Nat) (G : Nat → OR) : Prop :=
  ∃ f, w.rowIs km 41 (n * 2) f ∧ ∀ j x, j < i → L[j]? = some x → ((G j).r = x.r ∧ (G j).m = x.m ∧ (G j).xs = x.xs.map (mvV n σ)) ∧ (f (σ j * 2) = .int .i64 x.r ∧ f (σ j * 2 + 1) = .slice (G j).a (G j).m (G j).c) ∧ w.ownsRow (km + 1) 45 2 (.slice (G j).a (G j).m (G j).c) (G j).m (flat (G j).xs)

theorem own_cap {w : World} {B n : Nat} {e : TypeId} {size : Nat} {v : Value} {xs : List Value} (h : w.ownsRow B e size v n xs) : ∃ a c, v = .slice a n c ∧ n ≤ c ∧ (a = none → n = 0 ∧ c = 0) := by
  rcases h.2 with ⟨e1, e2⟩ | ⟨g, cap, cur, e1, _, _, hc, _⟩
  · exact ⟨none, 0, by rw [e1, e2], by omega, fun _ => ⟨e2, rfl⟩⟩
  · exact ⟨_, cap, e1, hc, fun h => by cases h⟩
theorem own_apart {w : World} {B n : Nat} {e : TypeId} {size : Nat} {v : Value} {xs : List Value} (h : w.ownsRow B e size v n xs) {k : Nat} (hk : k < B) : v.ownBlock ≠ some k := by
  rcases h.2 with ⟨rfl, _⟩ | ⟨g, cap, cur, rfl, hb, _⟩
  · simp [Value.ownBlock]
  · simp [Value.ownBlock]; omega

theorem MV.fr {w w' : World} {km n i : Nat} {σ : Nat → Nat} {L : List OR} {G : Nat → OR} (h : MV w km n σ L i G) (g : Fr [] w w') : MV w' km n σ L i G := by
  obtain ⟨f, hr, hj⟩ := h
  exact ⟨f, row_fr hr g (by simp), fun j x h1 h2 => ⟨(hj j x h1 h2).1, (hj j x h1 h2).2.1, own_fr (hj j x h1 h2).2.2 g (by simp)⟩⟩
theorem MV.nil {w : World} {km n : Nat} {σ : Nat → Nat} {L : List OR} {f : Nat → Value} (h : w.rowIs km 41 (n * 2) f) (G : Nat → OR) : MV w km n σ L 0 G := ⟨f, h, fun j x h1 _ => by omega⟩
theorem MV.step {w : World} {km n i : Nat} {σ τ : Nat → Nat} {L : List OR} {G : Nat → OR} (h : MV w km n σ L i G) (hO : Ord n σ τ) (hi : i < n) {x : OR} (hx : L[i]? = some x) {a : Option Addr} {c : Nat} (ho : w.ownsRow (km + 1) 45 2 (.slice a x.m c) x.m (flat (x.xs.map (mvV n σ)))) :
    MV ((w.setCell ⟨km, σ i * 2, none⟩ (.int .i64 x.r)).setCell ⟨km, σ i * 2 + 1, none⟩ (.slice a x.m c)) km n σ L (i + 1) (fun j => if j = i then ⟨x.r, a, x.m, c, x.xs.map (mvV n σ)⟩ else G j) := by
  obtain ⟨f, hr, hj⟩ := h
  have g : Fr [km] w ((w.setCell ⟨km, σ i * 2, none⟩ (.int .i64 x.r)).setCell ⟨km, σ i * 2 + 1, none⟩ (.slice a x.m c)) := ((Fr.refl _ _).setCell (.inl (by simp)) _).setCell (.inl (by simp)) _
  refine ⟨_, (hr.set (σ i * 2) (.int .i64 x.r)).set (σ i * 2 + 1) (.slice a x.m c), fun j y h1 h2 => ?_⟩
  by_cases e : j = i
  · subst e
    rw [hx] at h2
    injection h2 with h2
    subst h2
    simp only [if_true]
    refine ⟨⟨trivial, trivial, trivial⟩, ⟨?_, trivial⟩, own_fr ho g (fun k hk hm => own_apart ho (k := km) (by omega) (by simp at hm; rw [← hm]; exact hk))⟩
    rw [if_neg (by omega)]
  · simp only [if_neg e]
    obtain ⟨p1, p2, p3⟩ := hj j y (by omega) h2
    have hne : σ j ≠ σ i := fun e2 => by
      have h3 := (hO.fwd j (by omega)).2
      rw [e2, (hO.fwd i hi).2] at h3
      omega
    refine ⟨p1, ⟨?_, ?_⟩, own_fr p3 g (fun k hk hm => own_apart p3 (k := km) (by omega) (by simp at hm; rw [← hm]; exact hk))⟩
    · rw [if_neg (by omega), if_neg (by omega)]; exact p2.1
    · rw [if_neg (by omega), if_neg (by omega)]; exact p2.2

/-- The things as they lie at the end. -/
def outL (n : Nat) (τ : Nat → Nat) (G : Nat → OR) : List OR := (List.range n).map (fun y => G (τ y))
theorem outL_at {n : Nat} {τ : Nat → Nat} {G : Nat → OR} {y : Nat} {z : OR} (h : (outL n τ G)[y]? = some z) : y < n ∧ z = G (τ y) := by
  have hy : y < n := by have := (List.getElem?_eq_some_iff.1 h).1; simpa [outL] using this
  refine ⟨hy, ?_⟩
  simp [outL, hy] at h
  exact h.symm
section
variable {w : World} {km n : Nat} {σ τ : Nat → Nat} {L : List OR} {G : Nat → OR}
theorem MV.ors (h : MV w km n σ L n G) (hO : Ord n σ τ) (hL : L.length = n) : ORs w.heap.size w (some ⟨km, 0, none⟩) (outL n τ G) := by
  intro y z hz
  obtain ⟨hy, rfl⟩ := outL_at hz
  obtain ⟨f, hr, hj⟩ := h
  obtain ⟨t1, t2⟩ := hO.bwd y hy
  have hx : L[τ y]? = some (L[τ y]'(by omega)) := List.getElem?_eq_getElem _
  obtain ⟨⟨p1, p2, p3⟩, ⟨q1, q2⟩, _⟩ := hj (τ y) _ t1 hx
  rw [t2] at q1 q2
  refine ⟨km, 0, rfl, hr.lt, ?_, ?_⟩
  · rw [Nat.zero_add, hr.cell (by omega), q1, p1]
  · rw [Nat.zero_add, hr.cell (by omega), q2]
theorem MV.src (h : MV w km n σ L n G) (hO : Ord n σ τ) (hL : L.length = n) (hn : n ≤ 1000) (hF : ∀ y, y ∈ L → OFn y) : ∀ (y : Nat) (z : OR), (outL n τ G)[y]? = some z → Src w.heap.size w z.a z.m z.c z.xs ∧ OFn z := by
  intro y z hz
  obtain ⟨hy, rfl⟩ := outL_at hz
  obtain ⟨f, hr, hj⟩ := h
  obtain ⟨t1, t2⟩ := hO.bwd y hy
  have hx : L[τ y]? = some (L[τ y]'(by omega)) := List.getElem?_eq_getElem _
  obtain ⟨⟨p1, p2, p3⟩, _, p4⟩ := hj (τ y) _ t1 hx
  have hf := hF _ (List.mem_of_getElem? hx)
  have hlen : (G (τ y)).xs.length = (G (τ y)).m := by rw [p3, p2, List.length_map, hf.len]
  refine ⟨⟨hlen, ?_, ?_, ?_⟩, hlen, by rw [p1]; exact hf.wr, ?_⟩
  · intro e
    obtain ⟨a, c, e1, _, e2⟩ := own_cap p4
    injection e1 with e1 e3 e4
    rw [← e1] at e2
    obtain ⟨h1, h2⟩ := e2 e
    exact ⟨h1, by rw [e4]; exact h2⟩
  · intro ad e hp
    obtain ⟨g, c, e1, _, _, hlt⟩ := own_cells p4 (j := 0) (x := (flat (G (τ y)).xs)[0]'(by rw [flat_length, hlen]; omega)) (List.getElem?_eq_getElem _)
    injection e1 with e1 e3 e4
    rw [e] at e1
    injection e1 with e1
    rw [e1]
    exact hlt
  · intro hp
    obtain ⟨g, c, e1, hl⟩ := own_lies p4 (by omega)
    injection e1 with e1 e3 e4
    rw [e1]
    exact hl hp
  · intro c hc
    rw [p3, List.mem_map] at hc
    obtain ⟨d, hd, rfl⟩ := hc
    unfold mvV
    split
    · rename_i hh
      have h1 := (hO.fwd d.2.toNat (by omega)).1
      exact wf_thousand (by simp) (by simp; omega)
    · exact hf.wx d hd
theorem MV.tot (h : MV w km n σ L n G) (hO : Ord n σ τ) (hL : L.length = n) : totO (outL n τ G) ≤ totO L := by
  obtain ⟨f, hr, hj⟩ := h
  have e1 : totO (outL n τ G) = ((List.range n).map (fun y => (fun j => (G j).m + 1) (τ y))).sum := by rw [totO_sum, outL, List.map_map]; rfl
  rw [e1]
  refine Nat.le_trans (ord_sum hO (fun j => (G j).m + 1)) (Nat.le_of_eq (sum_range L hL _ ?_))
  intro j x hx
  rw [(hj j x (by have := (List.getElem?_eq_some_iff.1 hx).1; omega) hx).1.2.1]
theorem MV.alike (h : MV w km n σ L n G) (hO : Ord n σ τ) (hL : L.length = n) (xs : List (Int × Int)) : Alike (L.map OR.abs) xs ((outL n τ G).map OR.abs) (xs.map (mvV n σ)) := by
  obtain ⟨f, hr, hj⟩ := h
  refine moved_alike (by simp [hL]) (by simp [outL]) hO ?_ xs
  intro i a ha
  rw [List.getElem?_map] at ha
  cases hx : L[i]? with
  | none => rw [hx] at ha; cases ha
  | some x =>
    rw [hx] at ha
    injection ha with ha
    have hi : i < n := by have := (List.getElem?_eq_some_iff.1 hx).1; omega
    obtain ⟨⟨p1, p2, p3⟩, _⟩ := hj i x hi hx
    obtain ⟨s1, s2⟩ := hO.fwd i hi
    simp only [outL, List.map_map, List.getElem?_map, List.getElem?_range s1, Option.map_some, Function.comp, s2, OR.abs, p1, p3, ← ha]
end
end Go.Proofs.YtefkcmeeagflmaaDoor
