/-
  A judge's map of merges, and what it does at a merge; conditions: the judge and the instruction lie as told.
-/
import Derived.Test.YtkjkpkmmojchiaaGreatDoorIrN
import Derived.Maps.OwnSet
namespace Go.Proofs.YtkjkpkmmojchiaaGreatDoor
open Go.RowKit Go.Maps
set_option linter.unusedVariables false
set_option linter.unusedSimpArgs false

theorem law2 : Keyed Tryz.prog 2 := int_keyed Tryz.underlying2
theorem under74 : Tryz.prog.underlying 172 = some (.map 2 221) := by kernel_rfl
theorem zero131 (w : World) : (zeroValue 221).run Tryz.prog w = .ok (.agg #[]) w := by kernel_rfl

/-- A set of numbers. -/
def SetAt (W : World) (mb n : Nat) (m : Int → Bool) : Prop :=
  ∃ D : DataW Unit, W.ownsMap Tryz.prog 2 unitElem mb n D ∧ ∀ k, (Lit.int .i64 k).wf = true → Maps.has D (.int .i64 k) = m k

theorem SetAt.fr {S : List Nat} {W W' : World} {mb n : Nat} {m : Int → Bool} (h : SetAt W mb n m) (g : Fr S W W') (hS : mb ∉ S) : SetAt W' mb n m := by
  obtain ⟨D, ⟨es, clock, hb, r⟩, hD⟩ := h
  exact ⟨D, ⟨es, clock, (g.block mb (Array.getElem?_eq_some_iff.1 hb).1 hS).trans hb, r⟩, hD⟩

theorem SetAt.map {W : World} {mb n : Nat} {m : Int → Bool} (h : SetAt W mb n m) : ∃ es c, W.heap[mb]? = some (.map es c) := by
  obtain ⟨D, ⟨es, clock, hb, _⟩, _⟩ := h
  exact ⟨es, clock, hb⟩

theorem SetAt.put {W W0 : World} {mb n : Nat} {m : Int → Bool} {D : DataW Unit} (h0 : W0.ownsMap Tryz.prog 2 unitElem mb n D) (hD : ∀ k, (Lit.int .i64 k).wf = true → Maps.has D (.int .i64 k) = m k)
    {k : Int} (hk : (Lit.int .i64 k).wf = true) (h : W.ownsMap Tryz.prog 2 unitElem mb (n + 1) (D.put (.int .i64 k) (.agg []))) : SetAt W mb (n + 1) (fun j => decide (j = k) || m j) := by
  refine ⟨_, h, fun j hj => ?_⟩
  have hi := h0.isMap
  have hkey := law2.key (keyOf_int_mk Tryz.underlying2 hk)
  by_cases e : j = k
  · subst e
    simp [has_put_same hi hkey]
  · have hne : (Lit.int .i64 j) ≠ Lit.int .i64 k := fun h' => e (by injection h')
    rw [has_put_other hne, hD j hj]
    simp [e]


theorem SetAt.look {W : World} {mb n : Nat} {m : Int → Bool} (h : SetAt W mb n m) {k : Int} (hk : (Lit.int .i64 k).wf = true) : (Instr.lookup 172 (.map (some mb)) (.int .i64 k) true).run Tryz.prog W = .ok (.tuple #[.agg #[], .bool (m k)]) W := by
  obtain ⟨D, hD, hm⟩ := h
  obtain ⟨v, ps, hr, hv⟩ := hD.look_ok (t := 172) (e := 221) law2 under74 (zero131 _) unitElem_mk (keyOf_int_mk Tryz.underlying2 hk)
  rw [hr, (unitElem_inv hv).1, hm k hk]
theorem SetAt.store {W : World} {mb n : Nat} {m : Int → Bool} (h : SetAt W mb n m) {k : Int} (hk : (Lit.int .i64 k).wf = true) (hn : n < maxLen) : ∃ w', (Instr.mapUpdate 172 (.map (some mb)) (.int .i64 k) (.agg #[])).run Tryz.prog W = .ok () w' ∧ SetAt w' mb (n + 1) (fun j => decide (j = k) || m j) ∧ Fr [mb] W w' := by
  obtain ⟨D, hD, hm⟩ := h
  obtain ⟨w', hr, h2, ht⟩ := hD.store (t := 172) (e := 221) law2 under74 hn (keyOf_int_mk Tryz.underlying2 hk) unitElem_mk
  exact ⟨w', hr, SetAt.put hD hm hk h2, Fr.ofGrown ht.grown⟩
theorem bodyPost_panic {P : Program} {fn : Func} {R : Ending → World → Prop} {a : Act} {w : World} {chain : List PanicEntry} (hd : a.defers = []) (hR : R (.panicked chain) w) : bodyPost P fn R (.panic chain) a w := ⟨hd, hR⟩

/-- The code, and where the judge and its map lie. -/
structure JP where
  B : Nat
  F : List Fu
  fa : Option Addr
  len : Nat
  cap : Nat
  mn : Int
  mg : Int
  jb : Nat
  mb : Nat
/-- A judge that stands at function n, instruction i, and has met so many merges. -/
structure JS (P : JP) (n i : Int) (cnt : Nat) (seen : Int → Bool) (w : World) : Prop where
  blk : JB w P.jb P.fa P.len P.cap P.mn P.mg P.mb n i
  set : SetAt w P.mb cnt seen
  fat : FAt P.B w P.fa P.F
  ln : P.F.length = P.len
  lo1 : P.B ≤ P.jb
  lo2 : P.B ≤ P.mb
  bw : P.B ≤ w.heap.size
  tb : Tabs w
  lo : 1 ≤ P.B
def JP.S (P : JP) : List Nat := [P.jb, P.mb]
section
variable {P : JP} {n i : Int} {cnt : Nat} {seen : Int → Bool} {w w' : World}
theorem JS.ne (h : JS P n i cnt seen w) : P.jb ≠ P.mb := fun e => by
  obtain ⟨es, c, hm⟩ := h.set.map
  have hb := h.blk
  unfold JB at hb
  rw [e, hm] at hb
  cases hb
theorem JS.fr0 (h : JS P n i cnt seen w) (f : Fr [] w w') : JS P n i cnt seen w' :=
  ⟨h.blk.fr f (by simp), h.set.fr f (by simp), h.fat.fr f (by simp), h.ln, h.lo1, h.lo2, Nat.le_trans h.bw f.size, h.tb.fr f (by simp), h.lo⟩
theorem JS.low (h : JS P n i cnt seen w) : ∀ k, k ∈ P.S → P.B ≤ k := fun k hk => by
  have := h.lo1
  have := h.lo2
  simp [JP.S] at hk
  rcases hk with rfl | rfl <;> omega
end

def mergeOk (mg : Int) (seen : Int → Bool) (x : In) : Bool := decide (0 ≤ x.k ∧ x.k ≤ mg - 1) && !seen x.k && decide (x.l.length ≤ 4)
def addS (seen : Int → Bool) (k : Int) : Int → Bool := fun j => decide (j = k) || seen j
def wfI (k : Int) : Prop := (Lit.int .i64 k).wf = true

theorem wrapm1 {z : Int} (h0 : 0 ≤ z) (h1 : z ≤ 9223372036854775807) : IntKind.i64.wrap (z - 1) = z - 1 := by
  rw [IntKind.wrap_i64]; omega

set_option maxRecDepth 100000 in
set_option maxHeartbeats 4000000 in
theorem merge_cps {P : JP} {n i : Int} {cnt : Nat} {seen : Int → Bool} {w : World} (h : JS P n i cnt seen w) (x : In) (hwk : wfI x.k) (hxl : x.l.length ≤ 8000000000000) (hm0 : 0 ≤ P.mg) (hm1 : P.mg ≤ 9223372036854775807) (hcnt : cnt ≤ 8000000000000) (R : Ending → World → Prop)
    (hy : mergeOk P.mg seen x = true → ∀ w', JS P n i (cnt + 1) (addS seen x.k) w' → Fr P.S w w' → R (.returned (.tuple #[])) w') (hn : mergeOk P.mg seen x = false → ∀ w', Fr P.S w w' → R (thrown n i) w') :
    Calls Tryz.prog 178 #[.pointer (some ⟨P.jb, 0, none⟩), .agg x.arr] w R := by
  have HYES : Hid _ := hy
  have HNO : Hid _ := hn
  clear hy hn
  have F0 : Fr [] w (w.alloc (.cells x.arr 80)) := (Fr.refl _ _).alloc _
  have bx : (w.alloc (.cells x.arr 80)).heap[w.heap.size]? = some (.cells x.arr 80 (0, 0)) := heap_alloc_new w _
  have J0 := h.fr0 F0
  have hwr := wrapm1 hm0 hm1
  have hjw : P.jb ≠ w.heap.size := by have := (Array.getElem?_eq_some_iff.1 h.blk).1; omega
  have HJ : Hid (JS P n i cnt seen (w.alloc (.cells x.arr 80))) := J0
  have HF : Hid (Fr [] w (w.alloc (.cells x.arr 80))) := F0
  have hxlI : (x.l.length : Int) ≤ 8000000000000 := by omega
  go_enter Tryz.func178, Tryz.ntmps178
  unfold In.arr at *
  go_wp2_with fail
  generalize w.alloc (.cells #[.int .i64 x.op, .int .i64 x.a, .int .i64 x.b, .int .i64 x.c, .int .i64 x.k, .slice x.la x.l.length x.lc] 80) = W0 at *
  have m0 : ∀ w', Fr [] W0 w' → w'.cell? ⟨w.heap.size, 0, none⟩ = some (.int .i64 x.op) := fun w' f => f.cell1 (at_cells bx 0 rfl) (by simp)
  have m1 : ∀ w', Fr [] W0 w' → w'.cell? ⟨w.heap.size, 1, none⟩ = some (.int .i64 x.a) := fun w' f => f.cell1 (at_cells bx 1 rfl) (by simp)
  have m2 : ∀ w', Fr [] W0 w' → w'.cell? ⟨w.heap.size, 2, none⟩ = some (.int .i64 x.b) := fun w' f => f.cell1 (at_cells bx 2 rfl) (by simp)
  have m3 : ∀ w', Fr [] W0 w' → w'.cell? ⟨w.heap.size, 3, none⟩ = some (.int .i64 x.c) := fun w' f => f.cell1 (at_cells bx 3 rfl) (by simp)
  have m4 : ∀ w', Fr [] W0 w' → w'.cell? ⟨w.heap.size, 4, none⟩ = some (.int .i64 x.k) := fun w' f => f.cell1 (at_cells bx 4 rfl) (by simp)
  have m5 : ∀ w', Fr [] W0 w' → w'.cell? ⟨w.heap.size, 5, none⟩ = some (.slice x.la x.l.length x.lc) := fun w' f => f.cell1 (at_cells bx 5 rfl) (by simp)
  have j0 : ∀ w', Fr [] W0 w' → w'.cell? ⟨P.jb, 0, none⟩ = some (.slice P.fa P.len P.cap) := fun w' f => f.cell1 (at_cells J0.blk 0 rfl) (by simp)
  have j1 : ∀ w', Fr [] W0 w' → w'.cell? ⟨P.jb, 1, none⟩ = some (.int .i64 P.mn) := fun w' f => f.cell1 (at_cells J0.blk 1 rfl) (by simp)
  have j2 : ∀ w', Fr [] W0 w' → w'.cell? ⟨P.jb, 2, none⟩ = some (.int .i64 P.mg) := fun w' f => f.cell1 (at_cells J0.blk 2 rfl) (by simp)
  have j3 : ∀ w', Fr [] W0 w' → w'.cell? ⟨P.jb, 3, none⟩ = some (.map (some P.mb)) := fun w' f => f.cell1 (at_cells J0.blk 3 rfl) (by simp)
  have j4 : ∀ w', Fr [] W0 w' → w'.cell? ⟨P.jb, 4, none⟩ = some (.int .i64 n) := fun w' f => f.cell1 (at_cells J0.blk 4 rfl) (by simp)
  have j5 : ∀ w', Fr [] W0 w' → w'.cell? ⟨P.jb, 5, none⟩ = some (.int .i64 i) := fun w' f => f.cell1 (at_cells J0.blk 5 rfl) (by simp)
  have RF : Fr [] W0 W0 := Fr.refl _ _
  have HD : ∀ w' : World, Fr [] W0 w' → Fr [] W0 w'.drew := fun w' h => h.drew
  have CW : ∀ w', Fr [] W0 w' → Calls Tryz.prog 155 #[.pointer (some ⟨P.jb, 0, none⟩), .int .i64 x.k, .int .i64 0, .int .i64 (P.mg - 1)] w' (Out (decide (0 ≤ x.k ∧ x.k ≤ P.mg - 1)) n i (fun w'' => w'' = w') (fun w'' => w'' = w')) := fun w' f => within_any (HJ.out.blk.fr f (by simp)) _ _ _
  have HL : ∀ w', Fr [] W0 w' → (Instr.lookup 172 (.map (some P.mb)) (.int .i64 x.k) true).run Tryz.prog w' = .ok (.tuple #[.agg #[], .bool (seen x.k)]) w' := fun w' f => SetAt.look (HJ.out.set.fr f (by simp)) hwk
  have m4' := m4 _ RF
  have j2' := j2 _ RF
  clear h J0 bx F0
  by_cases h1 : 0 ≤ x.k ∧ x.k ≤ P.mg - 1
  · rw [decide_eq_true h1] at CW
    go_region_held3 (fun w' : World => Fr [] W0 w')
      (with_reducible (first | assumption | exact HD _ (by assumption)))
      (first
        | (go_at_call 155; with_reducible (refine (CW _ (by assumption)).mono ?_); intro e w1 hE; obtain ⟨rfl, rfl⟩ := Out.yes hE))
    have G1 : Fr [] W0 W0.drew := HD _ RF
    clear CW
    go_wp2_with fail
    have HAl : ∀ (w' : World) (o : Obj), Fr [] W0 w' → Fr [] W0 (w'.alloc o) := fun w' o h => h.alloc o
    go_region_held3 (fun w' : World => Fr [] W0 w')
      (with_reducible (first | assumption | exact HD _ (by assumption) | exact HAl _ _ (by assumption) | exact HD _ (HD _ (HAl _ _ RF)) | exact HD _ (HAl _ _ (HD _ RF)) | exact HAl _ _ (HD _ (HD _ RF))))
      (fail)
    all_goals
      have G2 : Fr [] W0 (W0.alloc (.cells #[] 221)).drew.drew := HD _ (HD _ (HAl _ _ RF))
      generalize (W0.alloc (.cells #[] 221)).drew.drew = W2 at *
      have J2 := HJ.out.fr0 G2
      have n4 := m4 _ G2
      have n5 := m5 _ G2
      have k3 := j3 _ G2
      have FW : Hid (Fr [] w W2) := HF.out.trans G2
      have HJ2 : Hid (JS P n i cnt seen W2) := J2
      clear m0 m1 m2 m3 m4 m5 j0 j1 j2 j3 j4 j5 RF HD HL HAl G1 m4' j2' HJ HF hwr
      cases hs : seen x.k with
      | true =>
        have HO : Hid (mergeOk P.mg seen x = false) := by unfold Hid mergeOk; rw [hs]; simp
        have C := want_no J2.blk
        clear hs J2
        go_wp2_with (go_at_call 154; refine C.mono ?_; rintro e w' ⟨rfl, rfl⟩; unfold thrown)
        exact bodyPost_panic rfl (HNO.out HO.out _ (FW.out.sub (by simp)))
      | false =>
        have C := want_yes P.jb W2
        have G3 : SetAt W2.drew P.mb cnt seen := J2.set
        obtain ⟨w3, hrun, set3, f3⟩ := G3.store hwk (by unfold maxLen; omega)
        have J3 : JS P n i (cnt + 1) (addS seen x.k) w3 := by
          have f3' : Fr [P.mb] W2 w3 := ⟨f3.os, f3.tape, f3.output, f3.size, f3.block⟩
          exact ⟨J2.blk.fr f3' (by simpa using J2.ne), set3, J2.fat.fr f3' (by have := J2.lo2; simp; omega), J2.ln, J2.lo1, J2.lo2, Nat.le_trans J2.bw f3'.size, J2.tb.fr f3' (by have := J2.lo2; have := J2.lo; simp; omega), J2.lo⟩
        have FW3 : Hid (Fr P.S w w3) := (FW.out.sub (T := P.S) (by simp)).trans ((show Fr [P.mb] W2 w3 from ⟨f3.os, f3.tape, f3.output, f3.size, f3.block⟩).sub (fun k hk => .inl (by simp [JP.S] at hk ⊢; exact .inr hk)))
        have n5' : w3.cell? ⟨w.heap.size, 5, none⟩ = some (.slice x.la x.l.length x.lc) := f3.cell1 n5 (fun hm => by simp at hm; obtain ⟨es, c, hmm⟩ := J2.set.map; rw [← hm] at hmm; simp [World.cell?, hmm] at n5)
        have HJ3 : Hid (JS P n i (cnt + 1) (addS seen x.k) w3) := J3
        have HS : Hid (seen x.k = false) := hs
        have D1 := want_any J3.blk (decide (x.l.length ≤ 4))
        clear hs J2 G3 set3 f3 J3
        go_wp2_with (go_at_call 154; refine C.mono ?_; rintro e w' ⟨rfl, rfl⟩)
        go_region
        all_goals
          by_cases h4 : x.l.length ≤ 4
          · rw [decide_eq_true h4] at D1
            have HO : Hid (mergeOk P.mg seen x = true) := by unfold Hid mergeOk; rw [HS.out, decide_eq_true h1, decide_eq_true h4]; rfl
            have d4 : decide ((x.l.length : Int) ≤ 4) = true := decide_eq_true (by omega)
            clear hrun C
            go_wp2_with (go_at_call 154; refine D1.mono ?_; intro e w9 hE9; obtain ⟨rfl, rfl⟩ := Out.yes hE9)
            go_end0
            exact HYES.out HO.out _ HJ3.out FW3.out
          · rw [decide_eq_false h4] at D1
            have HO : Hid (mergeOk P.mg seen x = false) := by unfold Hid mergeOk; rw [decide_eq_false h4]; simp
            have d4 : decide ((x.l.length : Int) ≤ 4) = false := decide_eq_false (by omega)
            clear hrun C
            go_wp2_with (go_at_call 154; refine D1.mono ?_; intro e w9 hE9; obtain ⟨rfl, rfl⟩ := Out.no hE9; unfold thrown)
            exact bodyPost_panic rfl (HNO.out HO.out _ FW3.out)
  · rw [decide_eq_false h1] at CW
    have HO : Hid (mergeOk P.mg seen x = false) := by unfold Hid mergeOk; rw [decide_eq_false h1]; rfl
    have HFIN : Hid (∀ w', Fr [] W0 w' → R (thrown n i) w') := fun w' f => HNO.out HO.out w' ((HF.out.trans f).sub (by simp))
    go_region_dies
    all_goals
      refine (CW _ (HD _ RF)).mono ?_
      intro e w1 hE
      obtain ⟨rfl, rfl⟩ := Out.no hE
      exact bodyPost_panic rfl (HFIN.out _ (HD _ RF))
end Go.Proofs.YtkjkpkmmojchiaaGreatDoor
