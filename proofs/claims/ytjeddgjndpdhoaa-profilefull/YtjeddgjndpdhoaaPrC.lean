/-
  A book of the program as it lies; what is counted, as rows; condition: keys are numbers of 64 bits.
-/
import Derived.Test.YtjeddgjndpdhoaaPrB
namespace Go.Proofs.Ytjeddgjndpdhoaa
open Go.RowKit Go.Shelf Go.Maps Go.ChangeShapes
set_option linter.unusedVariables false
set_option linter.unusedSimpArgs false

/-- A row: a key, its count, the number of its coming in. -/
structure Rw where
  k : Ky
  n : Int
  s : Int
def tv (n s : Int) : Value := .agg #[.int .i64 n, .int .i64 s]
def tdt (n s : Int) : DataW Unit := .agg [.lit (.int .i64 n), .lit (.int .i64 s)]
def tElem : Value → Option (DataW Unit × List MemPlace)
  | .agg cs => match cs.toList with
    | [.int .i64 a, .int .i64 b] => some (tdt a b, [])
    | _ => none
  | _ => none
theorem tElem_mk (n s : Int) : tElem (tv n s) = some (tdt n s, []) := rfl
theorem tElem_inv {v : Value} {z : DataW Unit × List MemPlace} (h : tElem v = some z) : ∃ n s, v = tv n s ∧ z = (tdt n s, []) := by
  unfold tElem at h
  split at h
  · split at h
    · rename_i cs a b hc
      injection h with h
      refine ⟨a, b, ?_, h.symm⟩
      rw [tv]
      congr 1
      exact Array.toList_inj.1 hc
    · cases h
  · cases h
theorem tdt_inj {n s n' s' : Int} (h : tdt n s = tdt n' s') : n = n' ∧ s = s' := by simpa [tdt] using h
def rowOf (L : List Rw) (k : Ky) : Option Rw := L.find? (fun r => decide (r.k = k))
def cntL (L : List Rw) (k : Ky) : Int := ((rowOf L k).map (·.n)).getD 0
def sncL (L : List Rw) (k : Ky) : Int := ((rowOf L k).map (·.s)).getD 0
def hasL (L : List Rw) (k : Ky) : Bool := (rowOf L k).isSome
/-- What is counted, as a map. -/
structure CM (w : World) (mb : Nat) (L : List Rw) : Prop where
  ex : ∃ D : DataW Unit, w.ownsMap Try.prog 28 tElem mb L.length D ∧ Maps.size D = L.length ∧ (∀ k, kw k → Maps.has D (kl k) = hasL L k ∧ D.atKey (kl k) (tdt 0 0) = tdt (cntL L k) (sncL L k)) ∧ ∀ l, Maps.has D l = true → ∃ r ∈ L, kw r.k ∧ l = kl r.k
/-- What is banned, as a map. -/
structure BM (w : World) (bb : Nat) (O : List Ky) : Prop where
  ex : ∃ D : DataW Unit, w.ownsMap Try.prog 28 unitElem bb O.length D ∧ Maps.size D = O.length ∧ ∀ k, kw k → Maps.has D (kl k) = decide (k ∈ O)
theorem CM.fr {w w' : World} {S : List Nat} {mb : Nat} {L : List Rw} (h : CM w mb L) (f : Fr S w w') (hS : mb ∉ S) : CM w' mb L := by
  obtain ⟨D, ⟨es, clock, hb, r⟩, hD⟩ := h.ex
  exact ⟨D, ⟨es, clock, (f.block mb (Array.getElem?_eq_some_iff.1 hb).1 hS).trans hb, r⟩, hD⟩
theorem BM.fr {w w' : World} {S : List Nat} {mb : Nat} {L : List Ky} (h : BM w mb L) (f : Fr S w w') (hS : mb ∉ S) : BM w' mb L := by
  obtain ⟨D, ⟨es, clock, hb, r⟩, hD⟩ := h.ex
  exact ⟨D, ⟨es, clock, (f.block mb (Array.getElem?_eq_some_iff.1 hb).1 hS).trans hb, r⟩, hD⟩
/-- A book: its threshold, its rows, how many have come in, who is banned. -/
structure Bk where
  thr : Int
  L : List Rw
  ent : Int
  O : List Ky
/-- A book of the program as it lies. -/
structure BA (w : World) (b mb bb : Nat) (S : Bk) : Prop where
  blk : w.heap[b]? = some (.cells #[.int .i64 S.thr, .map (some mb), .map (some bb), .int .i64 S.ent] 54 (0, 0))
  cm : CM w mb S.L
  bm : BM w bb S.O
  ne : mb ≠ bb
  thr : 1 ≤ S.thr
theorem CM.noCells {w : World} {mb : Nat} {L : List Rw} (h : CM w mb L) {c : Array Value} {t : TypeId} {z : Nat × Nat} {k : Nat} (hk : w.heap[k]? = some (.cells c t z)) : k ≠ mb := by
  obtain ⟨D, ⟨es, clock, hb, r⟩, hD⟩ := h.ex
  rintro rfl
  rw [hb] at hk
  cases hk
theorem BM.noCells {w : World} {mb : Nat} {L : List Ky} (h : BM w mb L) {c : Array Value} {t : TypeId} {z : Nat × Nat} {k : Nat} (hk : w.heap[k]? = some (.cells c t z)) : k ≠ mb := by
  obtain ⟨D, ⟨es, clock, hb, r⟩, hD⟩ := h.ex
  rintro rfl
  rw [hb] at hk
  cases hk
theorem CM.lt {w : World} {mb : Nat} {L : List Rw} (h : CM w mb L) : mb < w.heap.size := by obtain ⟨D, ho, _⟩ := h.ex; exact ho.lt
theorem BM.lt {w : World} {mb : Nat} {L : List Ky} (h : BM w mb L) : mb < w.heap.size := by obtain ⟨D, ho, _⟩ := h.ex; exact ho.lt
theorem BA.fr {w w' : World} {T : List Nat} {b mb bb : Nat} {S : Bk} (h : BA w b mb bb S) (f : Fr T w w') (h1 : b ∉ T) (h2 : mb ∉ T) (h3 : bb ∉ T) : BA w' b mb bb S :=
  ⟨(f.block b (Array.getElem?_eq_some_iff.1 h.blk).1 h1).trans h.blk, h.cm.fr f h2, h.bm.fr f h3, h.ne, h.thr⟩
theorem under51 : Try.prog.underlying 51 = some (.map 28 60) := by kernel_rfl
theorem under52 : Try.prog.underlying 52 = some (.map 28 57) := by kernel_rfl
theorem zero60 (w : World) : (zeroValue 60).run Try.prog w = .ok (tv 0 0) w := by kernel_rfl
theorem zero57 (w : World) : (zeroValue 57).run Try.prog w = .ok (.agg #[]) w := by kernel_rfl
theorem CM.look {w : World} {mb : Nat} {L : List Rw} (h : CM w mb L) {k : Ky} (hk : kw k) : (Instr.lookup 51 (.map (some mb)) (.agg (kc k)) false).run Try.prog w = .ok (tv (cntL L k) (sncL L k)) w := by
  obtain ⟨D, ho, _, hD, _⟩ := h.ex
  obtain ⟨v, ps, hr, hv⟩ := ho.lookup law28 under51 (zero60 w) (tElem_mk 0 0) (keyOf28 k hk)
  obtain ⟨n, s, rfl, e⟩ := tElem_inv hv
  rw [(hD k hk).2] at e
  obtain ⟨rfl, rfl⟩ := tdt_inj (Prod.mk.inj e).1
  exact hr
theorem CM.lookOk {w : World} {mb : Nat} {L : List Rw} (h : CM w mb L) {k : Ky} (hk : kw k) : (Instr.lookup 51 (.map (some mb)) (.agg (kc k)) true).run Try.prog w = .ok (.tuple #[tv (cntL L k) (sncL L k), .bool (hasL L k)]) w := by
  obtain ⟨D, ho, _, hD, _⟩ := h.ex
  obtain ⟨v, ps, hr, hv⟩ := ho.look_ok law28 under51 (zero60 w) (tElem_mk 0 0) (keyOf28 k hk)
  obtain ⟨n, s, rfl, e⟩ := tElem_inv hv
  rw [(hD k hk).2] at e
  obtain ⟨rfl, rfl⟩ := tdt_inj (Prod.mk.inj e).1
  rw [(hD k hk).1] at hr
  exact hr
theorem BM.lookOk {w : World} {mb : Nat} {L : List Ky} (h : BM w mb L) {k : Ky} (hk : kw k) : (Instr.lookup 52 (.map (some mb)) (.agg (kc k)) true).run Try.prog w = .ok (.tuple #[.agg #[], .bool (decide (k ∈ L))]) w := by
  obtain ⟨D, ho, _, hD⟩ := h.ex
  obtain ⟨v, ps, hr, hv⟩ := ho.look_ok law28 under52 (zero57 w) unitElem_mk (keyOf28 k hk)
  obtain ⟨rfl, _⟩ := unitElem_inv hv
  rw [hD k hk] at hr
  exact hr
theorem CM.len {w : World} {mb : Nat} {L : List Rw} (h : CM w mb L) (ty : TypeId) : (Builtin.len_ #[51] ty #[.map (some mb)]).run Try.prog w = .ok (.int .i64 L.length) w := by
  obtain ⟨D, ho, hs, hD⟩ := h.ex
  rw [ho.len under51 ty, hs]

set_option maxRecDepth 100000 in
theorem alive_any {w : World} {b mb bb : Nat} {S : Bk} (h : BA w b mb bb S) : Calls Try.prog 23 #[.pointer (some ⟨b, 0, none⟩)] w fun e w' => e = .returned (.bool true) ∧ w' = w := by
  have c0 : w.cell? ⟨b, 0, none⟩ = some (.int .i64 S.thr) := at_cells h.blk 0 rfl
  have h1 := h.thr
  have h2 : ¬ (S.thr < 1) := by omega
  clear h
  go_enter Try.func23, Try.ntmps23
  go_wp2
  go_ret
  exact ⟨rfl, rfl⟩
set_option maxRecDepth 100000 in
theorem len_any {w : World} {b mb bb : Nat} {S : Bk} (h : BA w b mb bb S) : Calls Try.prog 22 #[.pointer (some ⟨b, 0, none⟩)] w fun e w' => e = .returned (.int .i64 S.L.length) ∧ w' = w := by
  have C := alive_any h
  have c1 : w.cell? ⟨b, 1, none⟩ = some (.map (some mb)) := at_cells h.blk 1 rfl
  have hl := h.cm.len
  clear h
  go_enter Try.func22, Try.ntmps22
  go_wp2_with (go_at_call 23; refine C.mono ?_; rintro e w' ⟨rfl, hw⟩; rw [hw])
  go_ret
  exact ⟨rfl, rfl⟩
end Go.Proofs.Ytjeddgjndpdhoaa
