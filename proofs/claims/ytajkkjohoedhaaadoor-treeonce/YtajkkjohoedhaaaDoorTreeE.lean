/-
  What each kind wants, as a map in memory; no condition.
-/
import Derived.Test.YtajkkjohoedhaaaDoorTreeD
namespace Go.Proofs.YtajkkjohoedhaaaDoor
open Go.RowKit
set_option linter.unusedVariables false
set_option linter.unusedSimpArgs false

/-- The map's entries, laid one behind another. -/
def valW (t : Nat) (s : List UInt8) : Value := .agg #[.int .i64 t, .string ⟨s.toArray⟩]
def EsL : List (Int × Nat × List UInt8) → Nat → List MapEntry
  | [], _ => []
  | x :: r, b => ⟨.int .i64 x.1, valW x.2.1 x.2.2, b⟩ :: EsL r (b + 1)
def Es (n : Nat) : Array MapEntry := (EsL (wantsL.take n) 0).toArray

theorem EsL_snoc : ∀ (l : List (Int × Nat × List UInt8)) (x : Int × Nat × List UInt8) (b : Nat), EsL (l ++ [x]) b = EsL l b ++ [⟨.int .i64 x.1, valW x.2.1 x.2.2, b + l.length⟩]
  | [], x, b => rfl
  | y :: l, x, b => by
    simp only [List.cons_append, EsL, EsL_snoc l x (b + 1), List.length_cons]
    rw [show b + 1 + l.length = b + (l.length + 1) by omega]
theorem find_none (k : Int) : ∀ (l : List (Int × Nat × List UInt8)) (b i : Nat), l.lookup k = none → Instr.findNow (.int .i64) (.int .i64 k) (EsL l b) i = some none
  | [], b, i, h => rfl
  | x :: l, b, i, h => by
    obtain ⟨a, v⟩ := x
    rw [List.lookup_cons] at h
    cases hk : (k == a) with
    | true => rw [hk] at h; cases h
    | false =>
      rw [hk] at h
      simp only [EsL, Instr.findNow, Instr.sameNow, if_true, hk]
      exact find_none k l (b + 1) (i + 1) h
theorem find_some (k : Int) (t : Nat) (s : List UInt8) : ∀ (l : List (Int × Nat × List UInt8)) (b i : Nat), l.lookup k = some (t, s) → ∃ j, Instr.findNow (.int .i64) (.int .i64 k) (EsL l b) i = some (some (j, valW t s))
  | [], b, i, h => by cases h
  | x :: l, b, i, h => by
    obtain ⟨a, v⟩ := x
    rw [List.lookup_cons] at h
    cases hk : (k == a) with
    | true =>
      rw [hk] at h
      cases h
      exact ⟨i, by simp only [EsL, Instr.findNow, Instr.sameNow, if_true, hk]⟩
    | false =>
      rw [hk] at h
      obtain ⟨j, hj⟩ := find_some k t s l (b + 1) (i + 1) h
      exact ⟨j, by simp only [EsL, Instr.findNow, Instr.sameNow, if_true, hk]; exact hj⟩

theorem check3 (e : Bool) (v : Int) (w : World) : (Instr.checkKey e 10000 3 (.int .i64 v)).run Tryd.prog w = .ok () w := by
  have h : ∀ n, (Instr.checkKey e (n + 1) 3 (.int .i64 v)).run Tryd.prog w = .ok () w := by
    intro n
    simp [Instr.checkKey, run_underlying Tryd.underlying3]
  exact h 9999
theorem alloc_set (w : World) (o o' : Obj) : { w.alloc o with heap := (w.alloc o).heap.setIfInBounds w.heap.size o' } = w.alloc o' := by
  simp only [World.alloc]
  congr 1
  apply Array.ext'
  simp [Array.setIfInBounds, Array.toList_push]
theorem zero59 (w : World) : (zeroValue 59).run Tryd.prog w = .ok (.agg #[.int .i64 0, .string ⟨#[]⟩]) w := by kernel_rfl
theorem under42 : Tryd.prog.underlying 42 = some (.map 3 59) := by kernel_rfl

theorem ins_any (w : World) (l : List (Int × Nat × List UInt8)) (x : Int × Nat × List UInt8) (h : l.lookup x.1 = none) :
    (Instr.mapUpdate 42 (.map (some w.heap.size)) (.int .i64 x.1) (valW x.2.1 x.2.2)).run Tryd.prog (w.alloc (.map (EsL l 0).toArray l.length)) = .ok () (w.alloc (.map (EsL (l ++ [x]) 0).toArray (l.length + 1))) := by
  have hf := find_none x.1 l 0 0 h
  have hb : (w.alloc (.map (EsL l 0).toArray l.length)).heap[w.heap.size]? = some (.map (EsL l 0).toArray l.length) := heap_alloc_new w _
  have hset := MapKept.run_setObj_map (P := Tryd.prog) (.map ((EsL l 0).toArray.push ⟨.int .i64 x.1, valW x.2.1 x.2.2, l.length⟩) (l.length + 1)) hb
  rw [alloc_set] at hset
  simp only [Instr.mapUpdate, run_underlying under42, Sem.run_bind, Result.andThen, MapKept.run_getObj_map hb, check3, Instr.findKey, run_underlying Tryd.underlying3, hf, EsL_snoc, Sem.run_pure, hset]
  simp

theorem lookups : ∀ i, i < 30 → ∀ x, wantsL[i]? = some x → (wantsL.take i).lookup x.1 = none := by
  intro i hi x hx
  have : ∀ i : Fin 30, (match wantsL[i.1]? with | some x => (wantsL.take i.1).lookup x.1 | none => none) = none := by decide
  have := this ⟨i, hi⟩
  simp only [hx] at this
  exact this
theorem ins (w : World) (i : Nat) (h : i < 30) :
    (Instr.mapUpdate 42 (.map (some w.heap.size)) (.int .i64 (wantsL.getD i (0, 0, [])).1) (valW (wantsL.getD i (0, 0, [])).2.1 (wantsL.getD i (0, 0, [])).2.2)).run Tryd.prog (w.alloc (.map (Es i) i)) = .ok () (w.alloc (.map (Es (i + 1)) (i + 1))) := by
  have hl : wantsL.length = 30 := rfl
  have hx : wantsL[i]? = some (wantsL.getD i (0, 0, [])) := by simp [List.getD_eq_getElem?_getD, hl, h]
  have e : wantsL.take (i + 1) = wantsL.take i ++ [wantsL.getD i (0, 0, [])] := by rw [List.take_add_one, hx]; rfl
  have := ins_any w (wantsL.take i) _ (lookups i h _ hx)
  rw [← e] at this
  rw [show (wantsL.take i).length = i by simp [hl]; omega] at this
  exact this

/-- The map of what kinds want. -/
def WM (w : World) (g : Nat) : Prop := w.heap[g]? = some (.map (Es 30) 30)
theorem WM.fr {w w' : World} {g : Nat} {S : List Nat} (h : WM w g) (f : Fr S w w') (hg : g ∉ S) : WM w' g :=
  (f.block g (Array.getElem?_eq_some_iff.1 h).1 hg).trans h
theorem WM.lt {w : World} {g : Nat} (h : WM w g) : g < w.heap.size := (Array.getElem?_eq_some_iff.1 h).1
theorem Es30 : (Es 30).toList = EsL wantsL 0 := rfl
theorem WM.none {w : World} {g : Nat} (h : WM w g) {k : Int} (hk : wantL k = none) : (Instr.lookup 42 (.map (some g)) (.int .i64 k) true).run Tryd.prog w = .ok (.tuple #[.agg #[.int .i64 0, .string ⟨#[]⟩], .bool false]) w := by
  have hf := find_none k wantsL 0 0 hk
  unfold WM at h
  simp [Instr.lookup, run_underlying under42, MapKept.run_getObj_map h, check3, Instr.findKey, run_underlying Tryd.underlying3, Es30, hf, zero59, Result.andThen]
theorem WM.some {w : World} {g : Nat} (h : WM w g) {k : Int} {t : Nat} {s : List UInt8} (hk : wantL k = some (t, s)) : (Instr.lookup 42 (.map (some g)) (.int .i64 k) true).run Tryd.prog w = .ok (.tuple #[.agg #[.int .i64 t, .string ⟨s.toArray⟩], .bool true]) w := by
  obtain ⟨j, hf⟩ := find_some k t s wantsL 0 0 hk
  unfold WM at h
  simp [Instr.lookup, run_underlying under42, MapKept.run_getObj_map h, check3, Instr.findKey, run_underlying Tryd.underlying3, Es30, hf, valW, Result.andThen]

set_option maxRecDepth 100000 in
set_option maxHeartbeats 1000000 in
theorem wants_any (w : World) :
    Calls Tryd.prog 22 #[] w fun e w' => e = .returned (.map (some w.heap.size)) ∧ w' = w.alloc (.map (Es 30) 30) := by
  have hmk : (Instr.makeMap 42 none).run Tryd.prog w = .ok (.map (some w.heap.size)) (w.alloc (.map (Es 0) 0)) := rfl
  have i0 : (Instr.mapUpdate 42 (.map (some w.heap.size)) (.int .i64 1) (.agg #[.int .i64 0, .string ⟨#[68]⟩])).run Tryd.prog (w.alloc (.map (Es 0) 0)) = .ok () (w.alloc (.map (Es 1) 1)) := ins w 0 (by decide)
  have i1 : (Instr.mapUpdate 42 (.map (some w.heap.size)) (.int .i64 2) (.agg #[.int .i64 1, .string ⟨#[78]⟩])).run Tryd.prog (w.alloc (.map (Es 1) 1)) = .ok () (w.alloc (.map (Es 2) 2)) := ins w 1 (by decide)
  have i2 : (Instr.mapUpdate 42 (.map (some w.heap.size)) (.int .i64 3) (.agg #[.int .i64 1, .string ⟨#[78, 98]⟩])).run Tryd.prog (w.alloc (.map (Es 2) 2)) = .ok () (w.alloc (.map (Es 3) 3)) := ins w 2 (by decide)
  have i3 : (Instr.mapUpdate 42 (.map (some w.heap.size)) (.int .i64 4) (.agg #[.int .i64 0, .string ⟨#[83]⟩])).run Tryd.prog (w.alloc (.map (Es 3) 3)) = .ok () (w.alloc (.map (Es 4) 4)) := ins w 3 (by decide)
  have i4 : (Instr.mapUpdate 42 (.map (some w.heap.size)) (.int .i64 5) (.agg #[.int .i64 1, .string ⟨#[101]⟩])).run Tryd.prog (w.alloc (.map (Es 4) 4)) = .ok () (w.alloc (.map (Es 5) 5)) := ins w 4 (by decide)
  have i5 : (Instr.mapUpdate 42 (.map (some w.heap.size)) (.int .i64 6) (.agg #[.int .i64 0, .string ⟨#[112, 101]⟩])).run Tryd.prog (w.alloc (.map (Es 5) 5)) = .ok () (w.alloc (.map (Es 6) 6)) := ins w 5 (by decide)
  have i6 : (Instr.mapUpdate 42 (.map (some w.heap.size)) (.int .i64 7) (.agg #[.int .i64 0, .string ⟨#[101, 98, 111]⟩])).run Tryd.prog (w.alloc (.map (Es 6) 6)) = .ok () (w.alloc (.map (Es 7) 7)) := ins w 6 (by decide)
  have i7 : (Instr.mapUpdate 42 (.map (some w.heap.size)) (.int .i64 8) (.agg #[.int .i64 0, .string ⟨#[101, 98]⟩])).run Tryd.prog (w.alloc (.map (Es 7) 7)) = .ok () (w.alloc (.map (Es 8) 8)) := ins w 7 (by decide)
  have i8 : (Instr.mapUpdate 42 (.map (some w.heap.size)) (.int .i64 9) (.agg #[.int .i64 0, .string ⟨#[101]⟩])).run Tryd.prog (w.alloc (.map (Es 8) 8)) = .ok () (w.alloc (.map (Es 9) 9)) := ins w 8 (by decide)
  have i9 : (Instr.mapUpdate 42 (.map (some w.heap.size)) (.int .i64 10) (.agg #[.int .i64 0, .string ⟨#[101]⟩])).run Tryd.prog (w.alloc (.map (Es 9) 9)) = .ok () (w.alloc (.map (Es 10) 10)) := ins w 9 (by decide)
  have i10 : (Instr.mapUpdate 42 (.map (some w.heap.size)) (.int .i64 11) (.agg #[.int .i64 0, .string ⟨#[101]⟩])).run Tryd.prog (w.alloc (.map (Es 10) 10)) = .ok () (w.alloc (.map (Es 11) 11)) := ins w 10 (by decide)
  have i11 : (Instr.mapUpdate 42 (.map (some w.heap.size)) (.int .i64 12) (.agg #[.int .i64 0, .string ⟨#[99]⟩])).run Tryd.prog (w.alloc (.map (Es 11) 11)) = .ok () (w.alloc (.map (Es 12) 12)) := ins w 11 (by decide)
  have i12 : (Instr.mapUpdate 42 (.map (some w.heap.size)) (.int .i64 13) (.agg #[.int .i64 0, .string ⟨#[78]⟩])).run Tryd.prog (w.alloc (.map (Es 12) 12)) = .ok () (w.alloc (.map (Es 13) 13)) := ins w 12 (by decide)
  have i13 : (Instr.mapUpdate 42 (.map (some w.heap.size)) (.int .i64 14) (.agg #[.int .i64 0, .string ⟨#[]⟩])).run Tryd.prog (w.alloc (.map (Es 13) 13)) = .ok () (w.alloc (.map (Es 14) 14)) := ins w 13 (by decide)
  have i14 : (Instr.mapUpdate 42 (.map (some w.heap.size)) (.int .i64 15) (.agg #[.int .i64 2, .string ⟨#[]⟩])).run Tryd.prog (w.alloc (.map (Es 14) 14)) = .ok () (w.alloc (.map (Es 15) 15)) := ins w 14 (by decide)
  have i15 : (Instr.mapUpdate 42 (.map (some w.heap.size)) (.int .i64 16) (.agg #[.int .i64 0, .string ⟨#[]⟩])).run Tryd.prog (w.alloc (.map (Es 15) 15)) = .ok () (w.alloc (.map (Es 16) 16)) := ins w 15 (by decide)
  have i16 : (Instr.mapUpdate 42 (.map (some w.heap.size)) (.int .i64 17) (.agg #[.int .i64 1, .string ⟨#[]⟩])).run Tryd.prog (w.alloc (.map (Es 16) 16)) = .ok () (w.alloc (.map (Es 17) 17)) := ins w 16 (by decide)
  have i17 : (Instr.mapUpdate 42 (.map (some w.heap.size)) (.int .i64 18) (.agg #[.int .i64 3, .string ⟨#[101]⟩])).run Tryd.prog (w.alloc (.map (Es 17) 17)) = .ok () (w.alloc (.map (Es 18) 18)) := ins w 17 (by decide)
  have i18 : (Instr.mapUpdate 42 (.map (some w.heap.size)) (.int .i64 19) (.agg #[.int .i64 4, .string ⟨#[101, 101]⟩])).run Tryd.prog (w.alloc (.map (Es 18) 18)) = .ok () (w.alloc (.map (Es 19) 19)) := ins w 18 (by decide)
  have i19 : (Instr.mapUpdate 42 (.map (some w.heap.size)) (.int .i64 20) (.agg #[.int .i64 1, .string ⟨#[101]⟩])).run Tryd.prog (w.alloc (.map (Es 19) 19)) = .ok () (w.alloc (.map (Es 20) 20)) := ins w 19 (by decide)
  have i20 : (Instr.mapUpdate 42 (.map (some w.heap.size)) (.int .i64 21) (.agg #[.int .i64 0, .string ⟨#[101, 101]⟩])).run Tryd.prog (w.alloc (.map (Es 20) 20)) = .ok () (w.alloc (.map (Es 21) 21)) := ins w 20 (by decide)
  have i21 : (Instr.mapUpdate 42 (.map (some w.heap.size)) (.int .i64 22) (.agg #[.int .i64 1, .string ⟨#[69]⟩])).run Tryd.prog (w.alloc (.map (Es 21) 21)) = .ok () (w.alloc (.map (Es 22) 22)) := ins w 21 (by decide)
  have i22 : (Instr.mapUpdate 42 (.map (some w.heap.size)) (.int .i64 23) (.agg #[.int .i64 1, .string ⟨#[]⟩])).run Tryd.prog (w.alloc (.map (Es 22) 22)) = .ok () (w.alloc (.map (Es 23) 23)) := ins w 22 (by decide)
  have i23 : (Instr.mapUpdate 42 (.map (some w.heap.size)) (.int .i64 24) (.agg #[.int .i64 0, .string ⟨#[101]⟩])).run Tryd.prog (w.alloc (.map (Es 23) 23)) = .ok () (w.alloc (.map (Es 24) 24)) := ins w 23 (by decide)
  have i24 : (Instr.mapUpdate 42 (.map (some w.heap.size)) (.int .i64 25) (.agg #[.int .i64 0, .string ⟨#[101]⟩])).run Tryd.prog (w.alloc (.map (Es 24) 24)) = .ok () (w.alloc (.map (Es 25) 25)) := ins w 24 (by decide)
  have i25 : (Instr.mapUpdate 42 (.map (some w.heap.size)) (.int .i64 26) (.agg #[.int .i64 0, .string ⟨#[]⟩])).run Tryd.prog (w.alloc (.map (Es 25) 25)) = .ok () (w.alloc (.map (Es 26) 26)) := ins w 25 (by decide)
  have i26 : (Instr.mapUpdate 42 (.map (some w.heap.size)) (.int .i64 27) (.agg #[.int .i64 0, .string ⟨#[101]⟩])).run Tryd.prog (w.alloc (.map (Es 26) 26)) = .ok () (w.alloc (.map (Es 27) 27)) := ins w 26 (by decide)
  have i27 : (Instr.mapUpdate 42 (.map (some w.heap.size)) (.int .i64 28) (.agg #[.int .i64 0, .string ⟨#[]⟩])).run Tryd.prog (w.alloc (.map (Es 27) 27)) = .ok () (w.alloc (.map (Es 28) 28)) := ins w 27 (by decide)
  have i28 : (Instr.mapUpdate 42 (.map (some w.heap.size)) (.int .i64 29) (.agg #[.int .i64 0, .string ⟨#[101]⟩])).run Tryd.prog (w.alloc (.map (Es 28) 28)) = .ok () (w.alloc (.map (Es 29) 29)) := ins w 28 (by decide)
  have i29 : (Instr.mapUpdate 42 (.map (some w.heap.size)) (.int .i64 30) (.agg #[.int .i64 0, .string ⟨#[]⟩])).run Tryd.prog (w.alloc (.map (Es 29) 29)) = .ok () (w.alloc (.map (Es 30) 30)) := ins w 29 (by decide)
  go_enter Tryd.func22, Tryd.ntmps22
  go_wp2
  go_ret
  exact ⟨rfl, rfl⟩
end Go.Proofs.YtajkkjohoedhaaaDoor
