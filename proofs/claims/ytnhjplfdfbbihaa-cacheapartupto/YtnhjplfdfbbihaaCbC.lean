/-
  What is held, as a map: of a key a number and a trace; condition: keys are numbers of 64 bits.
-/
import Derived.Test.YtnhjplfdfbbihaaCbB
namespace Go.Proofs.Ytnhjplfdfbbihaa
open Go.RowKit Go.Shelf Go.Maps Go.ChangeShapes
set_option linter.unusedVariables false
set_option linter.unusedSimpArgs false
abbrev Rt := Int × Tr
def evl (r : Rt) : List Value := .int .i64 r.1 :: r.2.cl
def ev (r : Rt) : Value := .agg (evl r).toArray
theorem evl_len (r : Rt) : (evl r).length = 18 := by simp [evl, Tr.cl_len]
def hElem : Value → Option (DataW Value × List MemPlace) := fun v => some (.held v, [])
def tr0 : Tr := ⟨(0, 0, 0, 0, 0, 0, 0, 0, 0, 0), 0, 0, none, 0, [], none, 0, [], none, 0, [], none, 0, [], none, 0, []⟩
theorem under60 : Try.prog.underlying 60 = some (.map 29 88) := by kernel_rfl
set_option maxRecDepth 100000 in
theorem zero88 (w : World) : (zeroValue 88).run Try.prog w = .ok (ev (0, tr0)) w := by kernel_rfl
def fnd (rs : List Rt) (k : Ky) : Option Rt := rs.find? (fun r => decide (r.2.k = k))
def NdK (rs : List Rt) : Prop := rs.Pairwise (fun a b => a.2.k ≠ b.2.k)
/-- What is held. -/
structure HM (w : World) (mb N : Nat) (rs : List Rt) : Prop where
  ex : ∃ D : DataW Value, w.ownsMap Try.prog 29 hElem mb N D ∧ ∀ k, kw k → ∀ z, D.atKey (kl k) z = ((fnd rs k).map (fun r => (DataW.held (ev r) : DataW Value))).getD z
theorem HM.fr {w w' : World} {S : List Nat} {mb N : Nat} {rs : List Rt} (h : HM w mb N rs) (g : Fr S w w') (hS : mb ∉ S) : HM w' mb N rs := by
  obtain ⟨D, ⟨es, clock, hb, r⟩, hD⟩ := h.ex
  exact ⟨D, ⟨es, clock, (g.block mb (Array.getElem?_eq_some_iff.1 hb).1 hS).trans hb, r⟩, hD⟩
theorem HM.blk {w : World} {mb N : Nat} {rs : List Rt} (h : HM w mb N rs) : ∃ es c, w.heap[mb]? = some (.map es c) := by
  obtain ⟨D, ⟨es, clock, hb, r⟩, hD⟩ := h.ex
  exact ⟨es, clock, hb⟩
theorem SM.blk {w : World} {mb N : Nat} {f : Int → Int → Option Int} (h : SM w mb N f) : ∃ es c, w.heap[mb]? = some (.map es c) := by
  obtain ⟨D, ⟨es, clock, hb, r⟩, hD⟩ := h.ex
  exact ⟨es, clock, hb⟩
theorem HM.more {w : World} {mb N M : Nat} {rs : List Rt} (h : HM w mb N rs) (hN : N ≤ M) : HM w mb M rs := by
  obtain ⟨D, ho, hD⟩ := h.ex
  exact ⟨D, own_more ho hN, hD⟩
theorem HM.empty (w : World) : HM (w.alloc (.map #[] 0)) w.heap.size 0 [] := ⟨.map [], World.ownsMap_made w _ _ _, fun k _ z => rfl⟩
theorem kl_key {k : Ky} (hk : kw k) : WideAt.IsKeyLit (kl k) := law29.key (keyOf29 k hk)
theorem held_inj {v u : Value} (h : (DataW.held v : DataW Value) = .held u) : v = u := by simpa using h
set_option maxRecDepth 100000 in
theorem HM.lookOk {w : World} {mb N : Nat} {rs : List Rt} (h : HM w mb N rs) {k : Ky} (hk : kw k) : (Instr.lookup 60 (.map (some mb)) (.agg (kc k)) true).run Try.prog w = .ok (.tuple #[ev ((fnd rs k).getD (0, tr0)), .bool (fnd rs k).isSome]) w := by
  obtain ⟨D, ho, hD⟩ := h.ex
  obtain ⟨v, ps, hr, hv⟩ := ho.look_ok law29 under60 (zero88 w) (R := hElem) (zd := .held (ev (0, tr0))) (zp := []) rfl (keyOf29 k hk)
  change (Instr.lookup 60 (.map (some mb)) (.agg (kc k)) true).run Try.prog w = _ at hr
  have hh : Maps.has D (kl k) = (fnd rs k).isSome := by
    cases hf : fnd rs k with
    | none => exact has_false_of_atKey (fun z => by rw [hD k hk, hf]; rfl)
    | some x => exact has_true_of_atKey (y := .held (ev x)) (fun z => by rw [hD k hk, hf]; rfl)
  rw [hD k hk] at hv
  rw [hr, hh]
  have e1 := (Prod.mk.inj (Option.some.inj hv)).1
  cases hf : fnd rs k with
  | none => rw [hf] at e1; rw [held_inj e1]; rfl
  | some x => rw [hf] at e1; rw [held_inj e1]; rfl
theorem fnd_some {rs : List Rt} {k : Ky} {r : Rt} (h : fnd rs k = some r) : r ∈ rs ∧ r.2.k = k := ⟨List.mem_of_find?_eq_some h, by simpa using List.find?_some h⟩
theorem fnd_of {rs : List Rt} (hn : NdK rs) {r : Rt} (hr : r ∈ rs) : fnd rs r.2.k = some r := by
  induction rs with
  | nil => cases hr
  | cons x rs ih =>
    unfold fnd
    rw [List.find?_cons]
    rcases List.mem_cons.1 hr with rfl | hm
    · simp
    · have := (List.pairwise_cons.1 hn).1 r hm
      simp only [this, decide_false]
      exact ih (List.pairwise_cons.1 hn).2 hm
theorem fnd_none {rs : List Rt} {k : Ky} : fnd rs k = none ↔ ∀ r ∈ rs, r.2.k ≠ k := by
  unfold fnd
  rw [List.find?_eq_none]
  simp
theorem nd_sub {rs ss : List Rt} (h : NdK rs) (hs : ss.Sublist rs) : NdK ss := h.sublist hs
theorem fnd_erase {rs : List Rt} (hn : NdK rs) {i : Nat} {r : Rt} (hi : rs[i]? = some r) (k : Ky) : fnd (rs.eraseIdx i) k = if k = r.2.k then none else fnd rs k := by
  obtain ⟨hl, he⟩ := List.getElem?_eq_some_iff.1 hi
  split
  · rename_i hk
    subst hk
    rw [fnd_none]
    intro x hx
    obtain ⟨j, hj⟩ := List.getElem?_of_mem hx
    rw [List.getElem?_eraseIdx] at hj
    split at hj
    · rename_i hlt
      obtain ⟨h1, h2⟩ := List.getElem?_eq_some_iff.1 hj
      have := (List.pairwise_iff_getElem.1 hn) j i h1 hl hlt
      rwa [h2, he] at this
    · rename_i hge
      obtain ⟨h1, h2⟩ := List.getElem?_eq_some_iff.1 hj
      have := (List.pairwise_iff_getElem.1 hn) i (j + 1) hl h1 (by omega)
      rw [h2, he] at this
      exact Ne.symm this
  · rename_i hk
    cases hf : fnd rs k with
    | none =>
      rw [fnd_none] at hf ⊢
      exact fun x hx => hf x (List.mem_of_mem_eraseIdx hx)
    | some x =>
      obtain ⟨hm, hxk⟩ := fnd_some hf
      have hx : x ∈ rs.eraseIdx i := by
        rw [List.mem_eraseIdx_iff_getElem?]
        obtain ⟨j, hj⟩ := List.getElem?_of_mem hm
        refine ⟨j, fun e => ?_, hj⟩
        rw [e, hi] at hj
        cases hj
        exact hk hxk.symm
      have := fnd_of (nd_sub hn (List.eraseIdx_sublist _ i)) hx
      rwa [hxk] at this
set_option maxRecDepth 100000 in
/-- A trace goes out of the map. -/
theorem HM.drop {w : World} {mb N : Nat} {rs : List Rt} (h : HM w mb N rs) (hn : NdK rs) {i : Nat} {r : Rt} (hi : rs[i]? = some r) (hk : kw r.2.k) (ty : TypeId) : ∃ w', (Builtin.delete_ #[60, 29] ty #[.map (some mb), .agg (kc r.2.k)]).run Try.prog w = .ok (.tuple #[]) w' ∧ HM w' mb N (rs.eraseIdx i) ∧ Fr [mb] w w' ∧ w'.heap.size = w.heap.size := by
  obtain ⟨D, ho, hD⟩ := h.ex
  obtain ⟨w', hr, ho', ht⟩ := ho.drop law29 under60 (keyOf29 r.2.k hk) ty
  have hsz : w'.heap.size = w.heap.size := by obtain ⟨_, _, _, _, _, rfl⟩ := ht; simp [Go.ChangeMaps.setBlock]
  refine ⟨w', hr, ⟨_, ho', fun k hk' z => ?_⟩, Fr.ofGrown ht.grown, hsz⟩
  rw [fnd_erase hn hi]
  split
  · rename_i e
    subst e
    rw [atKey_del_same]
    rfl
  · rename_i e
    rw [atKey_del_other (fun h => e (kl_inj hk' hk h)), hD k hk']
set_option maxRecDepth 100000 in
/-- A trace comes into the map whose key is not there. -/
theorem HM.store {w : World} {mb N : Nat} {rs : List Rt} (h : HM w mb N rs) (hN : N < 1000000000000000) {r : Rt} (hk : kw r.2.k) (hf : fnd rs r.2.k = none) : ∃ w', (Instr.mapUpdate 60 (.map (some mb)) (.agg (kc r.2.k)) (ev r)).run Try.prog w = .ok () w' ∧ HM w' mb (N + 1) (rs ++ [r]) ∧ Fr [mb] w w' ∧ w'.heap.size = w.heap.size := by
  obtain ⟨D, ho, hD⟩ := h.ex
  obtain ⟨w', hr, ho', ht⟩ := ho.store law29 under60 (by simp only [maxLen]; omega) (keyOf29 r.2.k hk) (d := .held (ev r)) (ps := []) rfl
  have hsz : w'.heap.size = w.heap.size := by obtain ⟨_, _, _, _, _, rfl⟩ := ht; simp [Go.ChangeMaps.setBlock]
  refine ⟨w', hr, ⟨_, ho', fun k hk' z => ?_⟩, Fr.ofGrown ht.grown, hsz⟩
  unfold fnd
  rw [List.find?_append]
  by_cases e : r.2.k = k
  · subst e
    rw [atKey_put_same ho.isMap (kl_key hk)]
    have : rs.find? (fun x => decide (x.2.k = r.2.k)) = none := hf
    rw [this]
    simp
  · rw [atKey_put_other (fun h => e (kl_inj hk' hk h).symm), hD k hk']
    simp [e, fnd]
end Go.Proofs.Ytnhjplfdfbbihaa
