/-
  Writes into a row's first element; what a first Put holds; no condition but those named.
-/
import Derived.Test.YtnhjplfdfbbihaaCdFH
import Derived.Test.YtnhjplfdfbbihaaCcC
namespace Go.Proofs.Ytnhjplfdfbbihaa
open Go.RowKit Go.Shelf Go.Maps Go.ChangeShapes
set_option linter.unusedVariables false
theorem row_first {w : World} {B n m c : Nat} {e : TypeId} {a : Option Addr} {xs : List Value} (h : w.ownsRow B e m (.slice a n c) n xs) (hn : 0 < n) : ∃ g cur, a = some ⟨g, 0, none⟩ ∧ B ≤ g ∧ w.heap[g]? = some (.cells cur e (0, 0)) ∧ w.there g 0 m := by
  rcases h.2 with ⟨_, e2⟩ | ⟨g, cap, cur, e1, hb, hg, hc, _, hs, _⟩
  · omega
  · cases e1
    refine ⟨g, cur, rfl, hb, hg, fun j hj => ⟨?_, frz hg⟩⟩
    have : j < cur.size := by
      rw [hs]
      exact Nat.lt_of_lt_of_le hj (Nat.le_mul_of_pos_left m (by omega))
    rw [Nat.zero_add, at_cells hg j (Array.getElem?_eq_getElem this)]
    rfl
theorem SL.there {w : World} {B : Nat} {e : TypeId} {a : Option Addr} {n c m y : Nat} {xs : List Value} (h : SL w B e a n c m y xs) (hm : 0 < m) (hn : 0 < n) {L : Nat} (ha : AFr L a) (hL : B ≤ L) : ∃ g o cur, a = some ⟨g, o, none⟩ ∧ L ≤ g ∧ w.heap[g]? = some (.cells cur e (0, 0)) ∧ w.there g o m := by
  obtain ⟨g, o, cur, e1, hg, hb, hc⟩ := h.place hm hn ha hL
  refine ⟨g, o, cur, e1, hg, hb, fun j hj => ⟨?_, frz hb⟩⟩
  obtain ⟨u, hu⟩ := hc j hj
  rw [hu]
  rfl
theorem put_one {w : World} {B c n p : Nat} {pk : List Int} {rs : List Rt} {q : Int} {t' : Tr} {a : AT} (h : CA w B c n (rs ++ [(q, t')]) (putB ⟨limP 1, pk, [], [], 0, 0⟩ a)) (ho : Ok (putB ⟨limP 1, pk, [], [], 0, 0⟩ a) p) : rs = [] := by
  have h1 := h.abs
  have h2 := ho.len
  rw [← h1, List.length_map] at h2
  have h3 : (putB ⟨limP 1, pk, [], [], 0, 0⟩ a).lim = limP 1 := (put_last _ _ (by show limP 1 ≠ 0; decide)).2
  rw [h3] at h2
  have h4 : limP 1 = 1 := by decide
  simp at h2
  cases rs with
  | nil => rfl
  | cons x r => simp at h2; omega
theorem put_nopk {S : Bk} (h : S.pk = []) (a : AT) : (putB S a).pk = [] := by
  have := put_pk S a
  rw [h] at this
  exact List.eq_nil_iff_forall_not_mem.2 (fun x hx => by simpa using this x hx)
theorem Tr.new_rows {w : World} {B : Nat} {t : Tr} {oa ia : Option Addr} {oc ic : Nat} (h : TrOk w B t) (hi : SL w B 3 ia t.ins.length ic 1 8 (t.ins.map (Value.int .i64))) (ho : SL w B 55 oa t.ops.length oc 5 56 (flatE t.ops)) : TrOk w B { t with oa := oa, oc := oc, ia := ia, ic := ic } :=
  ⟨hi, ho, h.opl, h.links, h.linkl, h.virts, h.virtl, h.back⟩
theorem FrL.ops {L : Nat} {t : Tr} (h : FrL 8 L t) : AFr L t.oa := h.f2 (by decide)
theorem Fr.gmBlock {B : Nat} {w w' : World} (g : Gm B pP true w w') {k : Nat} {c : Array Value} {e : TypeId} {z : Nat × Nat} (h : w.heap[k]? = some (.cells c e z)) (hp : pP e = false) : w'.heap[k]? = some (.cells c e z) :=
  (g.block k (Array.getElem?_eq_some_iff.1 h).1 (.inr (.inl ⟨_, _, _, h, hp⟩))).trans h
end Go.Proofs.Ytnhjplfdfbbihaa
