/-
  What is noted of places, in a map; what is noted of a trace is struck out: maps.DeleteFunc; condition: the map reads as told.
-/
import Derived.Test.YtnhjplfdfbbihaaCaX
import Derived.Lib.SlMapFilter
import Derived.Maps.Ext
import Derived.Laws.IdiomRangeMap
namespace Go.Proofs.Ytnhjplfdfbbihaa
open Go.RowKit Go.Shelf Go.Maps Go.ChangeShapes
set_option linter.unusedVariables false
set_option linter.unusedSimpArgs false
def W64 (x : Int) : Prop := (Lit.int .i64 x).wf = true
set_option maxRecDepth 100000 in
theorem keyLits_int {d : Nat} {a : Value} {u : List Lit} (h : Try.prog.keyLits (d + 1) 3 [a] = some u) : ∃ n, a = .int .i64 n ∧ W64 n := by
  unfold Program.keyLits at h
  rw [Try.underlying3] at h
  cases a <;> simp at h
  rename_i q n
  obtain ⟨⟨rfl, hw⟩, _⟩ := h
  exact ⟨n, rfl, hw⟩
theorem types152 : Try.prog.types.size = 152 := by kernel_rfl
set_option maxRecDepth 100000 in
theorem keyOf94_inv {v : Value} {l : Lit} (h : keyOf Try.prog 94 v = some l) : ∃ i p, v = .agg (pc i p) ∧ W64 i ∧ W64 p ∧ l = (pd i p).asKey := by
  obtain ⟨xs, L, rfl, hl, _⟩ := keyOf_top wide94 h
  have hl' := hl
  unfold Program.keyLits at hl
  rw [Try.underlying94] at hl
  simp only at hl
  split at hl
  · rename_i hlen
    have h2 : xs.toList.length = 2 := by rw [hlen.1, cells94]
    match hx : xs.toList, h2 with
    | [a, b], _ =>
      rw [hx] at hl
      simp only [List.mapM_cons, List.mapM_nil, cells3, Option.map_eq_some_iff] at hl
      obtain ⟨ls, hls, _⟩ := hl
      simp only [List.drop_zero, List.take_succ_cons, List.take_zero, List.drop_succ_cons, bind, Option.bind_eq_some_iff] at hls
      obtain ⟨u, hu, v', ⟨t, ht, _⟩, _⟩ := hls
      rw [types152] at hu ht
      have ea := keyLits_int (d := 151) hu
      have eb := keyLits_int (d := 151) ht
      obtain ⟨i, rfl, hi⟩ := ea
      obtain ⟨p, rfl, hp⟩ := eb
      have e : xs = pc i p := Array.toList_inj.1 (by rw [hx]; rfl)
      subst e
      exact ⟨i, p, rfl, hi, hp, Option.some.inj (h.symm.trans (keyOf94 hi hp))⟩
  · cases hl
/-- What is noted, as a map: of a place a number, or none. -/
structure SM (w : World) (mb N : Nat) (f : Int → Int → Option Int) : Prop where
  ex : ∃ D : DataW Unit, w.ownsMap Try.prog 94 (plainElem Try.prog 3) mb N D ∧ (∀ i p, W64 i → W64 p → ∀ z, D.atKey (pd i p).asKey z = ((f i p).map (fun v => (DataW.lit (.int .i64 v) : DataW Unit))).getD z) ∧ ∀ i p v, W64 i → W64 p → f i p = some v → W64 v
theorem SM.fr {w w' : World} {S : List Nat} {mb N : Nat} {f : Int → Int → Option Int} (h : SM w mb N f) (g : Fr S w w') (hS : mb ∉ S) : SM w' mb N f := by
  obtain ⟨D, ⟨es, clock, hb, r⟩, hD⟩ := h.ex
  exact ⟨D, ⟨es, clock, (g.block mb (Array.getElem?_eq_some_iff.1 hb).1 hS).trans hb, r⟩, hD⟩
theorem SM.lt {w : World} {mb N : Nat} {f : Int → Int → Option Int} (h : SM w mb N f) : mb < w.heap.size := by obtain ⟨D, ho, _⟩ := h.ex; exact ho.lt
theorem SM.noCells {w : World} {mb N : Nat} {f : Int → Int → Option Int} (h : SM w mb N f) {c : Array Value} {t : TypeId} {z : Nat × Nat} {k : Nat} (hk : w.heap[k]? = some (.cells c t z)) : k ≠ mb := by
  obtain ⟨D, ⟨es, clock, hb, r⟩, hD⟩ := h.ex
  rintro rfl
  rw [hb] at hk
  cases hk
theorem own_more {H : Type} {k : TypeId} {R : Value → Option (DataW H × List MemPlace)} {w : World} {b n m : Nat} {D : DataW H} (h : w.ownsMap Try.prog k R b n D) (hm : n ≤ m) : w.ownsMap Try.prog k R b m D := by
  obtain ⟨es, clock, hb, F, hs, rfl⟩ := h
  exact ⟨es, clock, hb, F, by omega, rfl⟩
theorem SM.more {w : World} {mb N M : Nat} {f : Int → Int → Option Int} (h : SM w mb N f) (hN : N ≤ M) : SM w mb M f := by
  obtain ⟨D, ho, hD⟩ := h.ex
  exact ⟨D, own_more ho hN, hD⟩
theorem pk_key {i p : Int} (hi : W64 i) (hp : W64 p) : WideAt.IsKeyLit (pd i p).asKey := law94.key (keyOf94 hi hp)
theorem under62 : Try.prog.underlying 62 = some (.map 94 3) := by kernel_rfl
theorem zero3 (w : World) : (zeroValue 3).run Try.prog w = .ok (.int .i64 0) w := by kernel_rfl
set_option maxRecDepth 100000 in
theorem pe3 {v : Int} (h : W64 v) : plainElem (H := Unit) Try.prog 3 (.int .i64 v) = some (.lit (.int .i64 v), []) := by
  unfold plainElem
  rw [Try.underlying3]
  unfold W64 at h
  simp [h]
theorem w0 : W64 0 := by unfold W64; decide
theorem SM.empty (w : World) : SM (w.alloc (.map #[] 0)) w.heap.size 0 (fun _ _ => none) := ⟨.map [], World.ownsMap_made w _ _ _, fun i p _ _ z => rfl, fun i p v _ _ h => by cases h⟩
set_option maxRecDepth 100000 in
theorem SM.look {w : World} {mb N : Nat} {f : Int → Int → Option Int} (h : SM w mb N f) {i p : Int} (hi : W64 i) (hp : W64 p) : (Instr.lookup 62 (.map (some mb)) (.agg (pc i p)) false).run Try.prog w = .ok (.int .i64 ((f i p).getD 0)) w := by
  obtain ⟨D, ho, hD, _⟩ := h.ex
  obtain ⟨v, ps, hr, hv⟩ := ho.lookup law94 under62 (zero3 w) (pe3 w0) (keyOf94 hi hp)
  obtain ⟨n, rfl, e, _⟩ := plainElem_int_inv Try.underlying3 hv
  rw [hD i p hi hp] at e
  rw [hr]
  congr 2
  have e1 := (Prod.mk.inj e).1
  cases hf : f i p with
  | none => rw [hf] at e1; simp at e1; simp [← e1]
  | some x => rw [hf] at e1; simp at e1; simp [← e1]
set_option maxRecDepth 100000 in
theorem SM.lookOk {w : World} {mb N : Nat} {f : Int → Int → Option Int} (h : SM w mb N f) {i p : Int} (hi : W64 i) (hp : W64 p) : (Instr.lookup 62 (.map (some mb)) (.agg (pc i p)) true).run Try.prog w = .ok (.tuple #[.int .i64 ((f i p).getD 0), .bool (f i p).isSome]) w := by
  obtain ⟨D, ho, hD, _⟩ := h.ex
  obtain ⟨v, ps, hr, hv⟩ := ho.look_ok law94 under62 (zero3 w) (pe3 w0) (keyOf94 hi hp)
  obtain ⟨n, rfl, e, _⟩ := plainElem_int_inv Try.underlying3 hv
  have hh : Maps.has D (pd i p).asKey = (f i p).isSome := by
    cases hf : f i p with
    | none => exact has_false_of_atKey (fun z => by rw [hD i p hi hp, hf]; rfl)
    | some x => exact has_true_of_atKey (y := .lit (.int .i64 x)) (fun z => by rw [hD i p hi hp, hf]; rfl)
  rw [hD i p hi hp] at e
  rw [hr, hh]
  have e1 := (Prod.mk.inj e).1
  cases hf : f i p with
  | none => rw [hf] at e1; simp at e1; simp [← e1]
  | some x => rw [hf] at e1; simp at e1; simp [← e1]
def putS (f : Int → Int → Option Int) (i p v : Int) : Int → Int → Option Int := fun j q => if j = i ∧ q = p then some v else f j q
set_option maxRecDepth 100000 in
theorem SM.putD {w' : World} {mb M : Nat} {f : Int → Int → Option Int} {D : DataW Unit} {i p v : Int} (hi : W64 i) (hp : W64 p) (hv : W64 v) (hm : IsMap D)
    (hD : ∀ i p, W64 i → W64 p → ∀ z, D.atKey (pd i p).asKey z = ((f i p).map (fun v => (DataW.lit (.int .i64 v) : DataW Unit))).getD z) (hw : ∀ i p v, W64 i → W64 p → f i p = some v → W64 v) (ho' : w'.ownsMap Try.prog 94 (plainElem Try.prog 3) mb M (D.put (pd i p).asKey (.lit (.int .i64 v)))) : SM w' mb M (putS f i p v) := by
  refine ⟨_, ho', fun j q hj hq z => ?_, fun j q u hj hq hu => ?_⟩
  · unfold putS
    by_cases e : j = i ∧ q = p
    · rw [if_pos e, e.1, e.2, atKey_put_same hm (pk_key hi hp)]
      rfl
    · rw [if_neg e, atKey_put_other (fun h => e (pdk_inj hj hq hi hp h)), hD j q hj hq]
  · unfold putS at hu
    split at hu
    · cases hu; exact hv
    · exact hw j q u hj hq hu
set_option maxRecDepth 100000 in
theorem SM.store {w : World} {mb N : Nat} {f : Int → Int → Option Int} (h : SM w mb N f) (hN : N < 1000000000000000) {i p v : Int} (hi : W64 i) (hp : W64 p) (hv : W64 v) : ∃ w', (Instr.mapUpdate 62 (.map (some mb)) (.agg (pc i p)) (.int .i64 v)).run Try.prog w = .ok () w' ∧ SM w' mb (N + 1) (putS f i p v) ∧ Fr [mb] w w' ∧ w'.heap.size = w.heap.size := by
  obtain ⟨D, ho, hD, hw⟩ := h.ex
  obtain ⟨w', hr, ho', ht⟩ := ho.store law94 under62 (by simp only [maxLen]; omega) (keyOf94 hi hp) (pe3 hv)
  have hsz : w'.heap.size = w.heap.size := by obtain ⟨_, _, _, _, _, rfl⟩ := ht; simp [Go.ChangeMaps.setBlock]
  exact ⟨w', hr, SM.putD hi hp hv ho.isMap hD hw ho', Fr.ofGrown ht.grown, hsz⟩
end Go.Proofs.Ytnhjplfdfbbihaa
