/-
  The document's book: a row's count is laid anew; what Hit comes to, by places; conditions: the book lies as told and is as a book must be.
-/
import Derived.Test.YtjeddgjndpdhoaaRbE
namespace Go.Proofs.Ytjeddgjndpdhoaa
open Go.RowKit Go.Shelf Go.Maps Go.ChangeShapes
set_option linter.unusedVariables false
set_option linter.unusedSimpArgs false

theorem set_cells1 {w : World} {g : Nat} {cur : Array Value} {e : TypeId} {z : Nat × Nat} (j : Nat) (u : Value) (h : w.heap[g]? = some (.cells cur e z)) : (w.setCell ⟨g, j, none⟩ u).heap[g]? = some (.cells (cur.setIfInBounds j u) e z) := by
  simp [World.setCell, Array.getElem?_modify, h]
theorem own_set {w : World} {B n size : Nat} {e : TypeId} {g c : Nat} {xs : List Value} (h : w.ownsRow B e size (.slice (some ⟨g, 0, none⟩) n c) n xs) (j : Nat) (u : Value) : (w.setCell ⟨g, j, none⟩ u).ownsRow B e size (.slice (some ⟨g, 0, none⟩) n c) n (xs.set j u) := by
  obtain ⟨h1, h2⟩ := h
  refine ⟨by simpa using h1, ?_⟩
  rcases h2 with ⟨e1, _⟩ | ⟨g', cap, cur, e1, hb, hg, hn, hm, hs, ht⟩
  · cases e1
  · cases e1
    refine .inr ⟨g, c, cur.setIfInBounds j u, rfl, hb, set_cells1 j u hg, hn, hm, by simpa using hs, ?_⟩
    rw [← ht, Array.toList_setIfInBounds, List.take_set]
theorem rc_set (r : Rw) (n : Int) : (rc r).set 10 (.int .i64 n) = rc ⟨r.k, n, r.s⟩ := by
  unfold rc
  rw [List.set_append_right (h := by simp [kc_size])]
  simp [kc_size]
theorem flat_set : ∀ {L : List Rw} {i : Nat} {r : Rw} (n : Int), L[i]? = some r → (L.set i ⟨r.k, n, r.s⟩).flatMap rc = (L.flatMap rc).set (i * 11 + 10) (.int .i64 n)
  | [], i, r, n, h => by simp at h
  | x :: L, 0, r, n, h => by
    simp at h
    subst h
    rw [List.set_cons_zero, List.flatMap_cons, List.flatMap_cons, Nat.zero_mul, Nat.zero_add, List.set_append_left (h := by rw [rc_len]; omega), rc_set]
  | x :: L, i + 1, r, n, h => by
    have ih := flat_set (L := L) (i := i) n (by simpa using h)
    rw [List.set_cons_succ, List.flatMap_cons, List.flatMap_cons, ih, List.set_append_right (h := by rw [rc_len]; omega), rc_len, show (i + 1) * 11 + 10 - 11 = i * 11 + 10 by omega]
/-- The document's book, its row of counts told by name. -/
structure RX (B : Nat) (w : World) (rb : Nat) (S : Bk) (g c : Nat) (so : Value) : Prop where
  blk : w.heap[rb]? = some (.cells #[.slice (some ⟨g, 0, none⟩) S.L.length c, so, .int .i64 S.thr] 46 (0, 0))
  row : w.ownsRow B 64 11 (.slice (some ⟨g, 0, none⟩) S.L.length c) S.L.length (S.L.flatMap rc)
  out : w.ownsRow B 28 10 so S.O.length (S.O.flatMap kcl)
theorem RX.book {B : Nat} {w : World} {rb : Nat} {S : Bk} {g c : Nat} {so : Value} (h : RX B w rb S g c so) : RBk B w rb S := ⟨_, _, h.blk, h.row, h.out⟩
theorem RBk.rx {B : Nat} {w : World} {rb : Nat} {S : Bk} (h : RBk B w rb S) {i : Nat} {r : Rw} (hi : S.L[i]? = some r) : ∃ g c so, RX B w rb S g c so := by
  obtain ⟨sv, so, hb, hr, ho⟩ := h.ex
  obtain ⟨g, c, rfl, _⟩ := own_at rc_len hr hi
  exact ⟨g, c, so, hb, hr, ho⟩
theorem RX.fr0 {B : Nat} {w w' : World} {rb : Nat} {S : Bk} {g c : Nat} {so : Value} (h : RX B w rb S g c so) (f : Fr [] w w') : RX B w' rb S g c so :=
  ⟨(f.block _ (Array.getElem?_eq_some_iff.1 h.blk).1 (by simp)).trans h.blk, own_fr h.row f (by simp), own_fr h.out f (by simp)⟩
theorem RX.ty {B : Nat} {w : World} {rb : Nat} {S : Bk} {g c : Nat} {so : Value} (h : RX B w rb S g c so) : B ≤ g ∧ ∃ cur, w.heap[g]? = some (.cells cur 64 (0, 0)) := own_type h.row rfl
theorem RX.ne {B : Nat} {w : World} {rb : Nat} {S : Bk} {g c : Nat} {so : Value} (h : RX B w rb S g c so) : g ≠ rb := RBk.ne46 h.blk h.row (by decide) g rfl
theorem RX.at10 {B : Nat} {w : World} {rb : Nat} {S : Bk} {g c : Nat} {so : Value} (h : RX B w rb S g c so) {i : Nat} {r : Rw} (hi : S.L[i]? = some r) : w.cell? ⟨g, i * 11 + 10, none⟩ = some (.int .i64 r.n) := by
  obtain ⟨g', c', e, hr, _⟩ := own_at rc_len h.row hi
  cases e
  exact hr 10 _ (by simp [rc, kc_size])
theorem RX.put {B : Nat} {w : World} {rb : Nat} {S : Bk} {g c : Nat} {so : Value} (h : RX B w rb S g c so) {i : Nat} {r : Rw} (hi : S.L[i]? = some r) (n : Int) : RX B (w.setCell ⟨g, i * 11 + 10, none⟩ (.int .i64 n)) rb { S with L := S.L.set i ⟨r.k, n, r.s⟩ } g c so ∧ Gr B p64 [rb] w (w.setCell ⟨g, i * 11 + 10, none⟩ (.int .i64 n)) := by
  obtain ⟨hBg, cur, hg⟩ := h.ty
  have f : Fr [g] w (w.setCell ⟨g, i * 11 + 10, none⟩ (.int .i64 n)) := (Fr.refl _ _).setCell (.inl (by simp)) _
  refine ⟨⟨?_, ?_, ?_⟩, Gr.ofFr f (fun q hq => ?_)⟩
  · have := (f.block rb (Array.getElem?_eq_some_iff.1 h.blk).1 (by simpa using h.ne.symm)).trans h.blk
    simpa using this
  · have := own_set h.row (i * 11 + 10) (.int .i64 n)
    rw [← flat_set n hi] at this
    simpa using this
  · refine own_fr h.out f (fun q hq hm => ?_)
    simp at hm
    subst hm
    obtain ⟨_, c1, h1⟩ := own_type h.out hq
    rw [hg] at h1
    cases h1
  · simp at hq
    subst hq
    exact .inr (.inr ⟨hBg, _, _, _, hg, rfl⟩)
theorem put_set {L : List Rw} (hn : Nd L) {i : Nat} {r : Rw} (hi : L[i]? = some r) {k : Ky} (hk : r.k = k) (n : Int) : putL L k n r.s = L.set i ⟨k, n, r.s⟩ := by
  subst hk
  unfold putL
  rw [if_pos (has_iff.2 ⟨r, List.mem_of_getElem? hi, rfl⟩)]
  induction L generalizing i with
  | nil => simp at hi
  | cons x L ih =>
    obtain ⟨h1, h2⟩ := List.pairwise_cons.1 hn
    cases i with
    | zero =>
      simp at hi
      subst hi
      rw [List.map_cons, List.set_cons_zero, if_pos rfl]
      congr 1
      rw [List.map_congr_left (g := id) (fun q hq => by rw [if_neg (fun e => h1 q hq e.symm)]; rfl), List.map_id]
    | succ i =>
      have hi' : L[i]? = some r := by simpa using hi
      rw [List.map_cons, List.set_cons_succ, if_neg (h1 r (List.mem_of_getElem? hi')), ih h2 hi']
theorem put_new {L : List Rw} {k : Ky} (hh : hasL L k = false) (n s : Int) : putL L k n s = (L ++ [(⟨k, 0, s⟩ : Rw)]).set L.length ⟨k, n, s⟩ := by
  unfold putL
  rw [hh]
  simp
/-- What the way to the count has come to, by places. -/
structure Way (S S1 : Bk) (k : Ky) (i : Nat) (c0 s0 : Int) : Prop where
  at_ : S1.L[i]? = some ⟨k, c0, s0⟩
  thr : S1.thr = S.thr
  c : 0 ≤ c0 ∧ c0 < S.thr ∧ S.thr ≤ 9223372036854775807
  len : S1.L.length ≤ 1000
  hit : hitB S k = ({ S1 with L := S1.L.set i ⟨k, if c0 + 1 = S.thr then 0 else c0 + 1, s0⟩ }, decide (c0 + 1 = S.thr))
theorem way_has {S : Bk} (h : Ok S) {k : Ky} (hO : k ∉ S.O) {i : Nat} {r : Rw} (hi : S.L[i]? = some r) (hk : r.k = k) (hrow : rowOf S.L k = some r) : Way S S k i r.n r.s := by
  obtain ⟨h1, h2, h3⟩ := cnt_of hrow
  refine ⟨by rw [hi, ← hk], rfl, ⟨(h.cnt r (List.mem_of_getElem? hi)).1, (h.cnt r (List.mem_of_getElem? hi)).2, h.thr.2⟩, h.len, ?_⟩
  unfold hitB roomB hitC hitS
  rw [if_neg hO, if_pos h3, if_pos h3, if_pos h3, h1, h2, put_set h.nd hi hk]
theorem way_no {S : Bk} (h : Ok S) {k : Ky} (hO : k ∉ S.O) (hh : hasL S.L k = false) : Way S { entB S with L := (entB S).L ++ [⟨k, 0, S.ent + 1⟩] } k (entB S).L.length 0 (S.ent + 1) := by
  refine ⟨by simp, rfl, ⟨Int.le_refl _, by have := h.thr; omega, h.thr.2⟩, by have := (ok_ent h).2.1; simp; omega, ?_⟩
  unfold hitB roomB hitC hitS
  rw [if_neg hO, hh]
  simp only [Bool.false_eq_true, if_false]
  rw [put_new (ent_no hh h)]
theorem Way.less {S S1 : Bk} {k : Ky} {i : Nat} {c0 s0 : Int} (h : Way S S1 k i c0 s0) (hl : c0 + 1 < S.thr) : hitB S k = ({ S1 with L := S1.L.set i ⟨k, c0 + 1, s0⟩ }, false) := by
  rw [h.hit, if_neg (by omega), decide_eq_false (by omega)]
theorem Way.full {S S1 : Bk} {k : Ky} {i : Nat} {c0 s0 : Int} (h : Way S S1 k i c0 s0) (hl : ¬ (c0 + 1 < S.thr)) : hitB S k = ({ S1 with L := (S1.L.set i ⟨k, c0 + 1, s0⟩).set i ⟨k, 0, s0⟩ }, true) := by
  have := h.c
  rw [h.hit, if_pos (by omega), decide_eq_true (by omega), List.set_set]
end Go.Proofs.Ytjeddgjndpdhoaa
