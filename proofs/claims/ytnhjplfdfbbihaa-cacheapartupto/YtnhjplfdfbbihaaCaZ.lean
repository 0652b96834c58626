/-
  A number that is noted is raised; what is noted of a trace is struck out: maps.DeleteFunc; condition: the map reads as told.
-/
import Derived.Test.YtnhjplfdfbbihaaCaY
import Derived.WideKeyEntry
namespace Go.Proofs.Ytnhjplfdfbbihaa
open Go.RowKit Go.Shelf Go.Maps Go.ChangeShapes
open Go.ChangeMaps (setBlock modify_eq_set)
set_option linter.unusedVariables false
set_option linter.unusedSimpArgs false
theorem entry_full {H : Type} {P : Program} {w : World} {t k e : TypeId} {R : Value → Option (DataW H × List MemPlace)} {b : Nat} {es : Array MapEntry} {clock : Nat} (K : Keyed P k) (ht : P.underlying t = some (.map k e)) {z : Value} (hz : ∀ u : World, (zeroValue e).run P u = .ok z u) (hb : w.heap[b]? = some (.map es clock)) (F : WideElems.Fit P k R es clock)
    {key : Value} {kl : Lit} (hkey : keyOf P k key = some kl) :
    ∃ (v0 : Value) (st : Nat) (es1 : Array MapEntry) (clock1 : Nat), (Instr.mapEntry t (.map (some b)) key).run P w = .ok (.tuple #[v0, goInt st]) (setBlock w b (.map es1 clock1)) ∧
      (Instr.lookup t (.map (some b)) key false).run P w = .ok v0 w ∧
      (Instr.mapUpdate t (.map (some b)) key v0).run P w = .ok () (setBlock w b (.map es1 clock1)) ∧
      ∀ (w2 : World) (val : Value), w2.heap[b]? = some (.map es1 clock1) → ∃ es' clock', (Instr.entryStore t (.map (some b)) (goInt st) val).run P w2 = .ok () (setBlock w2 b (.map es' clock')) ∧
        (Instr.mapUpdate t (.map (some b)) key val).run P w = .ok () (setBlock w b (.map es' clock')) := by
  obtain ⟨s1, s2, _⟩ := F.stamped
  rcases K.find w hkey es.toList F.keys with ⟨h1, h2⟩ | ⟨j, e0, h1, h2, h3⟩
  · refine ⟨z, clock, es.push ⟨key, z, clock⟩, clock + 1, ?_, ?_, ?_, fun w2 val hw2 => ⟨es.push ⟨key, val, clock⟩, clock + 1, ?_, ?_⟩⟩
    · simp [Instr.mapEntry, run_underlying ht, MapKept.run_getObj_map hb, K.check w false hkey, h1, hz, MapKept.run_setObj_map _ hb, Result.andThen, setBlock]
    · simp [Instr.lookup, run_underlying ht, MapKept.run_getObj_map hb, K.check w _ hkey, h1, hz, Result.andThen]
    · simp [Instr.mapUpdate, run_underlying ht, MapKept.run_getObj_map hb, K.check w false hkey, h1, MapKept.run_setObj_map _ hb, Result.andThen, setBlock]
    · have hidx : (es.push ⟨key, z, clock⟩).findIdx? (fun e => ((e.born : Nat) : Int) == ((clock : Nat) : Int)) = some es.size := by
        rw [WideElems.findIdx_arr]
        have := WideElems.findIdx_born (l := (es.push ⟨key, z, clock⟩).toList) (j := es.size) (e0 := ⟨key, z, clock⟩) (by
          simp only [Array.toList_push, List.map_append, List.map_cons, List.map_nil]
          refine List.nodup_append.2 ⟨s2, by simp, fun a ha c hc e1 => ?_⟩
          simp only [List.mem_singleton] at hc
          obtain ⟨x, hx, rfl⟩ := List.mem_map.1 ha
          have := s1 x hx
          omega) (by simp)
        exact this
      have hmod : (es.push ⟨key, z, clock⟩).modify es.size (fun e => { e with val := val }) = es.push ⟨key, val, clock⟩ := by
        apply Array.ext'
        rw [Array.toList_modify, Array.toList_push, Array.toList_push, ← Array.length_toList, WideElems.modify_last]
      simp [Instr.entryStore, MapKept.run_getObj_map hw2, asInt, asIntOf, goInt, hidx, hmod, MapKept.run_setObj_map _ hw2, Result.andThen, setBlock]
    · simp [Instr.mapUpdate, run_underlying ht, MapKept.run_getObj_map hb, K.check w false hkey, h1, MapKept.run_setObj_map _ hb, Result.andThen, setBlock]
  · have hj : es[j]? = some e0 := by simpa using h2
    have hsame : es.modify j (fun e => { e with key := key }) = es := by
      apply Array.ext'
      rw [Array.toList_modify, modify_eq_set _ _ _ _ h2]
      have : ({ e0 with key := key } : MapEntry) = e0 := by rw [← h3]
      rw [this]
      exact WideElems.set_self _ _ _ h2
    have hsame2 : es.modify j (fun e => { e with key := key, val := e0.val }) = es := by
      apply Array.ext'
      rw [Array.toList_modify, modify_eq_set _ _ _ _ h2]
      have : ({ e0 with key := key, val := e0.val } : MapEntry) = e0 := by rw [← h3]
      rw [this]
      exact WideElems.set_self _ _ _ h2
    refine ⟨e0.val, e0.born, es, clock, ?_, ?_, ?_, fun w2 val hw2 => ⟨es.modify j (fun e' => { e' with key := key, val := val }), clock, ?_, ?_⟩⟩
    · simp [Instr.mapEntry, run_underlying ht, MapKept.run_getObj_map hb, K.check w false hkey, h1, hj, h3, K.stays w hkey, hsame, MapKept.run_setObj_map _ hb, Result.andThen, setBlock]
    · simp [Instr.lookup, run_underlying ht, MapKept.run_getObj_map hb, K.check w _ hkey, h1, Result.andThen]
    · simp [Instr.mapUpdate, run_underlying ht, MapKept.run_getObj_map hb, K.check w false hkey, h1, hj, h3, K.stays w hkey, hsame2, MapKept.run_setObj_map _ hb, Result.andThen, setBlock]
    · have hidx : es.findIdx? (fun e => ((e.born : Nat) : Int) == ((e0.born : Nat) : Int)) = some j := by
        rw [WideElems.findIdx_arr]
        exact WideElems.findIdx_born s2 h2
      have hmod : es.modify j (fun e => { e with val := val }) = es.modify j (fun e' => { e' with key := key, val := val }) := by
        apply Array.ext'
        rw [Array.toList_modify, Array.toList_modify, modify_eq_set _ _ _ _ h2, modify_eq_set _ _ _ _ h2, ← h3]
      simp [Instr.entryStore, MapKept.run_getObj_map hw2, asInt, asIntOf, goInt, hidx, hmod, MapKept.run_setObj_map _ hw2, Result.andThen, setBlock]
    · simp [Instr.mapUpdate, run_underlying ht, MapKept.run_getObj_map hb, K.check w false hkey, h1, hj, h3, K.stays w hkey, MapKept.run_setObj_map _ hb, Result.andThen, setBlock]
theorem setBlock_fr {w : World} {b : Nat} {o o' : Obj} (hb : w.heap[b]? = some o) : Fr [b] w (setBlock w b o') :=
  ⟨rfl, rfl, rfl, by simp [setBlock], fun k hk hS => by
    have : k ≠ b := by simpa using hS
    simp [setBlock, Array.getElem?_setIfInBounds, Ne.symm this]⟩
theorem setBlock_at {w : World} {b : Nat} {o o' : Obj} (hb : w.heap[b]? = some o) : (setBlock w b o').heap[b]? = some o' := by
  have := (Array.getElem?_eq_some_iff.1 hb).1
  simp [setBlock, Array.getElem?_setIfInBounds, this]
theorem SM.ofBlock {w w' : World} {mb N : Nat} {f : Int → Int → Option Int} (h : SM w mb N f) (e : w'.heap[mb]? = w.heap[mb]?) : SM w' mb N f := by
  obtain ⟨D, ⟨es, clock, hb, r⟩, hD⟩ := h.ex
  exact ⟨D, ⟨es, clock, e.trans hb, r⟩, hD⟩
set_option maxRecDepth 100000 in
theorem SM.entry {w : World} {mb N : Nat} {f : Int → Int → Option Int} (h : SM w mb N f) (hN : N < 1000000000000000) {i p : Int} (hi : W64 i) (hp : W64 p) :
    ∃ (v0 : Value) (st : Int) (w1 : World), (Instr.mapEntry 62 (.map (some mb)) (.agg (pc i p))).run Try.prog w = .ok (.tuple #[v0, .int .i64 st]) w1 ∧ SM w1 mb (N + 1) (putS f i p ((f i p).getD 0)) ∧ Fr [mb] w w1 ∧
      ∀ (w2 : World) (val : Int), W64 val → w2.heap[mb]? = w1.heap[mb]? → ∃ w3, (Instr.entryStore 62 (.map (some mb)) (.int .i64 st) (.int .i64 val)).run Try.prog w2 = .ok () w3 ∧ SM w3 mb (N + 1) (putS f i p val) ∧ Fr [mb] w2 w3 := by
  have hw0 : W64 ((f i p).getD 0) := by
    obtain ⟨D, _, _, hw⟩ := h.ex
    cases hf : f i p with
    | none => exact w0
    | some x => exact hw i p x hi hp hf
  obtain ⟨D, ⟨es, clock, hb, F, hs, hDe⟩, hD⟩ := h.ex
  obtain ⟨v0, st, es1, clock1, h1, h2, h3, h4⟩ := entry_full law94 under62 (z := .int .i64 0) zero3 hb F (keyOf94 hi hp)
  have hv0 : v0 = .int .i64 ((f i p).getD 0) := by
    have := h.look hi hp
    rw [h2] at this
    injection this
  subst hv0
  obtain ⟨w', hr, hsm, hf, _⟩ := h.store hN hi hp hw0
  rw [h3] at hr
  injection hr with _ hr
  subst hr
  refine ⟨_, st, _, h1, hsm, hf, fun w2 val hval hw2 => ?_⟩
  rw [setBlock_at hb] at hw2
  obtain ⟨es', clock', h5, h6⟩ := h4 w2 (.int .i64 val) hw2
  obtain ⟨w', hr, hsm', _, _⟩ := h.store hN hi hp hval
  rw [h6] at hr
  injection hr with _ hr
  subst hr
  exact ⟨_, h5, hsm'.ofBlock (by rw [setBlock_at hw2, setBlock_at hb]), setBlock_fr hw2⟩
/-- Some places are forgotten. -/
def cutS (f : Int → Int → Option Int) (q : Int → Int → Int → Bool) : Int → Int → Option Int := fun i p => (f i p).bind (fun v => if q i p v then none else some v)
theorem SM.cut {w w' : World} {mb N : Nat} {f : Int → Int → Option Int} {D : DataW Unit} (q : Int → Int → Int → Bool) (pq : Lit → DataW Unit → Bool) (hpq : ∀ i p v, W64 i → W64 p → pq (pd i p).asKey (.lit (.int .i64 v)) = q i p v)
    (ho : w.ownsMap Try.prog 94 (plainElem Try.prog 3) mb N D) (hD : (∀ i p, W64 i → W64 p → ∀ z, D.atKey (pd i p).asKey z = ((f i p).map (fun v => (DataW.lit (.int .i64 v) : DataW Unit))).getD z) ∧ ∀ i p v, W64 i → W64 p → f i p = some v → W64 v) (ho' : w'.ownsMap Try.prog 94 (plainElem Try.prog 3) mb N (Lib.deleteFuncD pq D)) : SM w' mb N (cutS f q) := by
  obtain ⟨es, rfl, hap, hkeys⟩ := ho.entries law94
  refine ⟨_, ho', fun i p hi hp z => ?_, fun i p v hi hp hv => ?_⟩
  · have hk := pk_key hi hp
    have h0 := hD.1 i p hi hp
    show (DataW.map (es.filter fun x => !pq x.1 x.2)).atKey _ z = _
    unfold cutS
    cases hf : f i p with
    | none =>
      rw [hf] at h0
      have hn : Maps.has (DataW.map es) (pd i p).asKey = false := has_false_of_atKey (fun z => h0 z)
      have hn2 : Maps.has (DataW.map (es.filter fun x => !pq x.1 x.2)) (pd i p).asKey = false := by
        rw [has_eq, List.any_eq_false] at hn ⊢
        exact fun x hx => hn x ((List.mem_filter.1 hx).1)
      rw [atKey_of_not_has hn2]
      rfl
    | some v =>
      rw [hf] at h0
      have hy : Maps.has (DataW.map es) (pd i p).asKey = true := has_true_of_atKey (y := .lit (.int .i64 v)) (fun z => h0 z)
      rw [has_eq, List.any_eq_true] at hy
      obtain ⟨x, hx, hxk⟩ := hy
      have e1 := WideAt.sameKey_eq hxk
      obtain ⟨x1, x2⟩ := x
      simp only at e1
      subst e1
      have e2 : x2 = .lit (.int .i64 v) := (WideAt.atKey_mem .nil hk hap hx).symm.trans (h0 .nil)
      subst e2
      by_cases hq : q i p v = true
      · have hn2 : Maps.has (DataW.map (es.filter fun x => !pq x.1 x.2)) (pd i p).asKey = false := by
          rw [has_eq, List.any_eq_false]
          intro y hy hyk
          obtain ⟨hy1, hy2⟩ := List.mem_filter.1 hy
          have e3 := WideAt.sameKey_eq hyk
          obtain ⟨y1, y2⟩ := y
          simp only at e3
          subst e3
          have e4 : y2 = .lit (.int .i64 v) := (WideAt.atKey_mem .nil hk hap hy1).symm.trans (h0 .nil)
          subst e4
          rw [hpq i p v hi hp, hq] at hy2
          cases hy2
        rw [atKey_of_not_has hn2]
        simp [hq]
      · have hm : ((pd i p).asKey, (DataW.lit (.int .i64 v) : DataW Unit)) ∈ es.filter (fun x => !pq x.1 x.2) := List.mem_filter.2 ⟨hx, by
          have hq' : q i p v = false := by simpa using hq
          rw [hpq i p v hi hp, hq']; rfl⟩
        rw [WideAt.atKey_mem z hk (hap.filter _) hm]
        simp [hq]
  · unfold cutS at hv
    cases hf : f i p with
    | none => rw [hf] at hv; cases hv
    | some u =>
      rw [hf] at hv
      simp only [Option.bind_some] at hv
      split at hv
      · cases hv
      · cases hv
        exact hD.2 i p _ hi hp hf
end Go.Proofs.Ytnhjplfdfbbihaa
