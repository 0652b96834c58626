/-
  Sets of registers by the program: has, add, without, joined; no condition but that the words are words.
-/
import Derived.Test.YtajdnakpljgkpaaDoorLvP
import Derived.Deep.MidRow
import Derived.Deep.OwnRows
import Derived.Laws.Bits64b
import Derived.Laws.BitsAllLaws
import Derived.Deep.RegionHeld3
import Derived.Shelf.RegionOpen
namespace Go.Proofs.YtajdnakpljgkpaaDoor
open Go.RowKit
set_option linter.unusedVariables false
set_option linter.unusedSimpArgs false

def setL (s : Nat → Nat) : List Value := (List.range 16).map (fun i => Value.int .u64 (s i : Nat))
theorem setL_len (s : Nat → Nat) : (setL s).length = 16 := by simp [setL]
theorem setL_at (s : Nat → Nat) {i : Nat} (h : i < 16) : (setL s)[i]? = some (.int .u64 (s i : Nat)) := by simp [setL, h]
def setA (s : Nat → Nat) : Array Value := (setL s).toArray
theorem setA_at (s : Nat → Nat) {i : Nat} (h : i < 16) : (setA s)[i]? = some (.int .u64 (s i : Nat)) := by simp [setA, setL, h]
theorem setA_size (s : Nat → Nat) : (setA s).size = 16 := by simp [setA, setL]

theorem setA_clr (s : Nat → Nat) (r : Nat) (hr : r / 64 < 16) : (setA s).set (r / 64) (.int .u64 ((s (r / 64) &&& (18446744073709551615 - 2 ^ (r % 64)) : Nat) : Int)) (by rw [setA_size]; exact hr) = setA (clrS s r) := by
  apply Array.ext
  · simp [setA_size]
  · intro i h1 h2
    have hi : i < 16 := by rw [setA_size] at h2; exact h2
    have e : (setA (clrS s r))[i]? = some (.int .u64 (clrS s r i : Nat)) := setA_at _ hi
    rw [Array.getElem?_eq_getElem h2] at e
    injection e with e
    rw [e, Array.getElem_set]
    unfold clrS
    by_cases hq : r / 64 = i
    · subst hq; simp
    · rw [if_neg hq, if_neg (fun h => hq h.symm)]
      have e2 := setA_at s hi
      rw [Array.getElem?_eq_getElem (by rw [setA_size]; exact hi)] at e2
      injection e2
theorem setA_add (s : Nat → Nat) (r : Nat) (hr : r / 64 < 16) : (setA s).set (r / 64) (.int .u64 ((s (r / 64) ||| 2 ^ (r % 64) : Nat) : Int)) (by rw [setA_size]; exact hr) = setA (addS s r) := by
  apply Array.ext
  · simp [setA_size]
  · intro i h1 h2
    have hi : i < 16 := by rw [setA_size] at h2; exact h2
    have e : (setA (addS s r))[i]? = some (.int .u64 (addS s r i : Nat)) := setA_at _ hi
    rw [Array.getElem?_eq_getElem h2] at e
    injection e with e
    rw [e, Array.getElem_set]
    unfold addS
    by_cases hq : r / 64 = i
    · subst hq; simp
    · rw [if_neg hq, if_neg (fun h => hq h.symm)]
      have e2 := setA_at s hi
      rw [Array.getElem?_eq_getElem (by rw [setA_size]; exact hi)] at e2
      injection e2
/-- A store into a block of cells. -/
theorem set_at {W : World} {k i : Nat} {c : Array Value} {v : Value} {t : TypeId} {z : Nat × Nat} (h : W.heap[k]? = some (.cells c t z)) (hi : i < c.size) : (W.setCell ⟨k, i, none⟩ v).heap[k]? = some (.cells (c.set i v hi) t z) := by
  simp [World.setCell, Array.getElem?_modify, h, Array.setIfInBounds, hi]

/-- What has tells. -/
def hasI (s : Nat → Nat) (r : Int) : Bool := decide (0 ≤ r ∧ r < 1000) && hasS s r.toNat

set_option maxRecDepth 100000 in
theorem has_any (s : Nat → Nat) (r : Int) (w : World) (hs : okS s) :
    Calls Tryd.prog 48 #[.agg (setA s), .int .i64 r] w fun e w' => e = .returned (.bool (hasI s r)) ∧ Fr [] w w' := by
  have F0 : Hid (Fr [] w (w.alloc (.cells (setA s) 67))) := (Fr.refl _ _).alloc _
  have bx : (w.alloc (.cells (setA s) 67)).heap[w.heap.size]? = some (.cells (setA s) 67 (0, 0)) := heap_alloc_new w _
  by_cases h0 : 0 ≤ r
  · by_cases h1 : r < 1000
    · obtain ⟨n, rfl⟩ := Int.eq_ofNat_of_zero_le h0
      have hc : (w.alloc (.cells (setA s) 67)).cell? ⟨w.heap.size, n / 64, none⟩ = some (.int .u64 (s (n / 64) : Nat)) := at_cells bx _ (setA_at s (by omega))
      have hsz := setA_size s
      generalize setA s = A at *
      have hb := hs (n / 64)
      have HB : Hid (hasS s n = (s (n / 64)).testBit (n % 64)) := rfl
      generalize hz : s (n / 64) = z at *
      go_enter Tryd.func48, Tryd.ntmps48
      go_wp2
      go_ret
      refine ⟨?_, F0.out⟩
      have e1 : bits BinOp.and IntKind.u64 ((z : Int) / 2 ^ (n % 64)) 1 = ((z >>> (n % 64) &&& 1 : Nat) : Int) := by
        have hp : (2 : Int) ^ (n % 64) = ((2 ^ (n % 64) : Nat) : Int) := by simp
        rw [hp, ← Int.natCast_ediv, Nat.shiftRight_eq_div_pow]
        exact bits_and_u64_nat _ 1 (Nat.lt_of_le_of_lt (Nat.div_le_self _ _) hb) (by decide)
      rw [e1]
      congr 2
      unfold hasI
      rw [Int.toNat_natCast, HB.out, Nat.testBit, show decide (0 ≤ (n : Int) ∧ (n : Int) < 1000) = true by simp; omega, Bool.true_and]
      rw [Nat.and_comm]
      have h2 : 1 &&& z >>> (n % 64) ≤ 1 := Nat.and_le_left
      generalize 1 &&& z >>> (n % 64) = y at *
      have : y = 0 ∨ y = 1 := by omega
      rcases this with rfl | rfl <;> rfl
    · have hd : decide (r < 1000) = false := by simp; omega
      generalize setA s = A at *
      go_enter Tryd.func48, Tryd.ntmps48
      go_wp2
      go_ret
      exact ⟨by unfold hasI; rw [show decide (0 ≤ r ∧ r < 1000) = false by simp; omega]; rfl, F0.out⟩
  · have hd : decide (0 ≤ r) = false := by simp; omega
    generalize setA s = A at *
    go_enter Tryd.func48, Tryd.ntmps48
    go_wp2
    go_ret
    exact ⟨by unfold hasI; rw [show decide (0 ≤ r ∧ r < 1000) = false by simp; omega]; rfl, F0.out⟩

set_option maxRecDepth 100000 in
theorem add_any (s : Nat → Nat) (n b : Nat) (w : World) (hs : okS s) (hn : n < 1000) (bx : w.heap[b]? = some (.cells (setA s) 67 (0, 0))) :
    Calls Tryd.prog 69 #[.pointer (some ⟨b, 0, none⟩), .int .i64 n] w fun e w' => e = .returned (.tuple #[]) ∧ w'.heap[b]? = some (.cells (setA (addS s n)) 67 (0, 0)) ∧ Fr [b] w w' := by
  have hc : w.cell? ⟨b, n / 64, none⟩ = some (.int .u64 (s (n / 64) : Nat)) := at_cells bx _ (setA_at s (by omega))
  have hz : ∀ i, w.frozen? ⟨b, i, none⟩ = false := fun i => by simp [World.frozen?, bx]
  have HB : Hid _ := bx
  have hb := hs (n / 64)
  have hnI : (n : Int) < 1000 := by omega
  have HA : Hid _ := setA_add s n (by omega)
  have HS : Hid _ := setA_size s
  clear bx
  generalize hzz : s (n / 64) = z at *
  go_enter Tryd.func69, Tryd.ntmps69
  go_wp2
  go_region
  go_end0
  have e1 : bits BinOp.or IntKind.u64 (z : Int) (IntKind.u64.wrap (2 ^ (n % 64))) = ((z ||| 2 ^ (n % 64) : Nat) : Int) := by
    have hp : (2 : Int) ^ (n % 64) = ((2 ^ (n % 64) : Nat) : Int) := by simp
    have hl := pow_lt n
    rw [hp, IntKind.wrap_u64]
    generalize 2 ^ (n % 64) = q at hl ⊢
    rw [Int.emod_eq_of_lt (by omega) (by omega)]
    exact bits_or_u64_nat _ _ hb hl
  rw [e1]
  refine ⟨rfl, ?_, ((Fr.refl _ _).setCell (.inl (by simp)) _).drew⟩
  rw [← HA.out]
  exact set_at HB.out (by rw [HS.out]; omega)

theorem under67 : Tryd.prog.underlying 67 = some (.array 16 65) := by kernel_rfl
theorem info67 : (Tryd.prog.info? 67).map (·.size) = some 16 := by kernel_rfl
theorem setA_one (s : Nat → Nat) : (setA s).all (·.oneCell') = true := by
  rw [Array.all_eq_true_iff_forall_mem]
  intro v hv
  simp only [setA, setL, List.mem_toArray, List.mem_map] at hv
  obtain ⟨i, _, rfl⟩ := hv
  rfl
theorem row_new {w : World} {b : Nat} {A C : Array Value} {t : TypeId} {z : Nat × Nat} (hb : w.heap[b]? = some (.cells A t z)) : (w.setRow b C).heap[b]? = some (.cells C t z) := by
  simp [World.setRow, Array.getElem?_modify, hb]
theorem row_oth {w : World} {b k : Nat} {C : Array Value} (hk : k ≠ b) : (w.setRow b C).heap[k]? = w.heap[k]? := by
  simp [World.setRow, Array.getElem?_modify, Ne.symm hk]
theorem Fr.setRow {S : List Nat} {a b : World} (h : Fr S a b) {k : Nat} (hk : k ∈ S ∨ a.heap.size ≤ k) (C : Array Value) : Fr S a (b.setRow k C) :=
  ⟨h.os, h.tape, h.output, by simpa [World.setRow] using h.size, fun i hi hS => by
    rw [row_oth]
    · exact h.block i hi hS
    · rintro rfl
      rcases hk with hk | hk
      · exact hS hk
      · omega⟩

theorem Fr.at {S : List Nat} {a b : World} {k : Nat} {o : Obj} (f : Fr S a b) (h : a.heap[k]? = some o) (hk : k ∉ S) : b.heap[k]? = some o := (f.block k (Array.getElem?_eq_some_iff.1 h).1 hk).trans h
def zA : Array Value := setA (fun _ => 0)
theorem zA_eq : zA = #[.int .u64 0, .int .u64 0, .int .u64 0, .int .u64 0, .int .u64 0, .int .u64 0, .int .u64 0, .int .u64 0, .int .u64 0, .int .u64 0, .int .u64 0, .int .u64 0, .int .u64 0, .int .u64 0, .int .u64 0, .int .u64 0] := by rfl
set_option maxRecDepth 100000 in
theorem without_any (s : Nat → Nat) (r : Int) (w : World) (hs : okS s) :
    Calls Tryd.prog 72 #[.agg (setA s), .int .i64 r] w fun e w' => e = .returned (.agg (setA (witS s r))) ∧ Fr [] w w' := by
  have f1 : Fr [] w (w.alloc (.cells (setA s) 67)) := (Fr.refl _ _).alloc _
  have f2 : Fr [] (w.alloc (.cells (setA s) 67)) ((w.alloc (.cells (setA s) 67)).alloc (.cells zA 67)) := (Fr.refl _ _).alloc _
  have b0 : ((w.alloc (.cells (setA s) 67)).alloc (.cells zA 67)).heap[w.heap.size]? = some (.cells (setA s) 67 (0, 0)) := f2.at (heap_alloc_new w _) (by simp)
  have z0 := blk2 w (.cells (setA s) 67) (.cells zA 67)
  have F2 := f1.trans f2
  have HZ : Hid ((setA s).size = 16) := setA_size s
  have CH := fun w' => has_any s r w' hs
  rw [zA_eq] at b0 z0 f2 F2
  clear f1 f2
  go_enter Tryd.func72, Tryd.ntmps72
  go_wp2_with (refine wpList_load_row rfl 67 (.tmp 2) rfl w.heap.size rfl 67 (setA s) (0, 0) (.array 16 65) b0 under67 rfl (by rw [HZ.out]; exact info67) ?_)
  with_reducible (refine (CH _).mono ?_)
  rintro e W ⟨rfl, f3⟩
  have B0 := f3.at b0 (by simp)
  have Z0 := f3.at z0 (by simp)
  have HF : Hid (Fr [] w W) := F2.trans f3
  have HS : Hid (w.heap.size < W.heap.size) := (Array.getElem?_eq_some_iff.1 B0).1
  clear b0 z0 F2 f3 CH
  by_cases hh : hasI s r = true
  · have hr : 0 ≤ r ∧ r < 1000 ∧ hasS s r.toNat = true := by
      unfold hasI at hh
      simp at hh
      exact ⟨hh.1.1, hh.1.2, hh.2⟩
    have HW : Hid (witS s r = clrS s r.toNat) := if_pos hr
    rw [hh]
    obtain ⟨n, rfl⟩ := Int.eq_ofNat_of_zero_le hr.1
    have hnI := hr.2.1
    have hn16 : n / 64 < 16 := by omega
    have HA : Hid _ := setA_clr s n hn16
    have hc : W.cell? ⟨w.heap.size, n / 64, none⟩ = some (.int .u64 (s (n / 64) : Nat)) := at_cells B0 _ (setA_at s (by omega))
    have hz : ∀ i, W.frozen? ⟨w.heap.size, i, none⟩ = false := fun i => by simp [World.frozen?, B0]
    have hb := hs (n / 64)
    have HB : Hid _ := B0
    clear B0 hh hr hs
    generalize s (n / 64) = z at *
    go_wp2
    go_region
    have e1 : bits BinOp.andNot IntKind.u64 (z : Int) (IntKind.u64.wrap (2 ^ (n % 64))) = ((z &&& (18446744073709551615 - 2 ^ (n % 64)) : Nat) : Int) := by
      have hp : (2 : Int) ^ (n % 64) = ((2 ^ (n % 64) : Nat) : Int) := by simp
      have hl := pow_lt n
      rw [hp, IntKind.wrap_u64]
      generalize 2 ^ (n % 64) = q at hl ⊢
      rw [Int.emod_eq_of_lt (by omega) (by omega)]
      exact u64_andNot_nat _ _ hb hl
    rw [e1]
    have B1 : (W.setCell ⟨w.heap.size, n / 64, none⟩ (.int .u64 ((z &&& (18446744073709551615 - 2 ^ (n % 64)) : Nat) : Int))).drew.heap[w.heap.size]? = some (.cells (setA (clrS s n)) 67 (0, 0)) := by
      rw [← HA.out]
      exact set_at HB.out (by rw [HZ.out]; omega)
    have F1 : Fr [w.heap.size] W (W.setCell ⟨w.heap.size, n / 64, none⟩ (.int .u64 ((z &&& (18446744073709551615 - 2 ^ (n % 64)) : Nat) : Int))).drew := ((Fr.refl _ _).setCell (.inl (by simp)) _).drew
    have Z1 := F1.at Z0 (by simp)
    generalize (W.setCell ⟨w.heap.size, n / 64, none⟩ (.int .u64 ((z &&& (18446744073709551615 - 2 ^ (n % 64)) : Nat) : Int))).drew = W1 at *
    clear hc hz Z0 HB HA e1
    have F1' : Hid (Fr [] w W1) := ((HF.out.sub (T := [w.heap.size]) (by simp)).trans F1).sub (fun k hk => .inr (by simp at hk; omega))
    clear F1
    have HZ' : Hid ((setA (clrS s n)).size = 16) := setA_size _
    have HO : Hid ((setA (clrS s n)).all (·.oneCell') = true) := setA_one _
    have HE : Hid (setA (witS s (n : Int)) = setA (clrS s n)) := by unfold Hid; rw [HW.out, Int.toNat_natCast]
    generalize setA (clrS s n) = A at *
    have R1 : (W1.setRow (w.heap.size + 1) A).heap[w.heap.size + 1]? = some (.cells A 67 (0, 0)) := row_new Z1
    go_wp2_with (first
      | refine wpList_load_row rfl 67 (.tmp 2) rfl w.heap.size rfl 67 A (0, 0) (.array 16 65) B1 under67 rfl (by rw [HZ'.out]; exact info67) ?_
      | refine wpList_store_row rfl 67 (.tmp 4) (.tmp 17) rfl (w.heap.size + 1) A rfl rfl 67 _ Z1 (by rw [HZ'.out]; exact info67) (by rw [HZ'.out]; rfl) HO.out ?_)
    refine bodyPost_ret (results_cell_row rfl _ _ (w.heap.size + 1) 67 A (0, 0) (.array 16 65) rfl R1 under67 rfl (by rw [HZ'.out]; exact info67)) rfl ?_
    exact ⟨by rw [HE.out], F1'.out.setRow (.inr (by omega)) _⟩
  · have hh' : hasI s r = false := by simpa using hh
    have HW : Hid (witS s r = s) := if_neg (fun h => hh (by unfold hasI; simp [h.1, h.2.1, h.2.2]))
    rw [hh']
    have HE : Hid (setA (witS s r) = setA s) := by unfold Hid; rw [HW.out]
    have HO : Hid ((setA s).all (·.oneCell') = true) := setA_one _
    clear hh hh'
    generalize setA s = A at *
    have R1 : (W.setRow (w.heap.size + 1) A).heap[w.heap.size + 1]? = some (.cells A 67 (0, 0)) := row_new Z0
    go_wp2_with (first
      | refine wpList_load_row rfl 67 (.tmp 2) rfl w.heap.size rfl 67 A (0, 0) (.array 16 65) B0 under67 rfl (by rw [HZ.out]; exact info67) ?_
      | refine wpList_store_row rfl 67 (.tmp 4) (.tmp 17) rfl (w.heap.size + 1) A rfl rfl 67 _ Z0 (by rw [HZ.out]; exact info67) (by rw [HZ.out]; rfl) HO.out ?_)
    refine bodyPost_ret (results_cell_row rfl _ _ (w.heap.size + 1) 67 A (0, 0) (.array 16 65) rfl R1 under67 rfl (by rw [HZ.out]; exact info67)) rfl ?_
    exact ⟨by rw [HE.out], HF.out.setRow (.inr (by omega)) _⟩

/-- The first i words joined. -/
def joinT (s t : Nat → Nat) (i : Nat) : Nat → Nat := fun j => if j < i then s j ||| t j else s j
theorem joinT_0 (s t : Nat → Nat) : joinT s t 0 = s := by funext j; simp [joinT]
theorem joinT_16 (s t : Nat → Nat) : setA (joinT s t 16) = setA (joinS s t) := by
  unfold setA setL
  congr 1
theorem joinT_set (s t : Nat → Nat) (i : Nat) (hi : i < 16) : (setA (joinT s t i)).set i (.int .u64 ((s i ||| t i : Nat) : Int)) (by rw [setA_size]; exact hi) = setA (joinT s t (i + 1)) := by
  apply Array.ext
  · simp [setA_size]
  · intro j h1 h2
    have hj : j < 16 := by rw [setA_size] at h2; exact h2
    have e : (setA (joinT s t (i + 1)))[j]? = some (.int .u64 (joinT s t (i + 1) j : Nat)) := setA_at _ hj
    rw [Array.getElem?_eq_getElem h2] at e
    injection e with e
    rw [e, Array.getElem_set]
    by_cases hq : i = j
    · subst hq; simp [joinT]
    · rw [if_neg hq]
      have e2 := setA_at (joinT s t i) hj
      rw [Array.getElem?_eq_getElem (by rw [setA_size]; exact hj)] at e2
      injection e2 with e2
      rw [e2]
      have : (j < i + 1) = (j < i) := by apply propext; omega
      simp [joinT, this]

theorem ix67 (A : Array Value) (k : Nat) (v : Value) (hz : A.size = 16) (hk : k < 16) (h : A[k]? = some v) (h1 : Tryd.prog.cellsOf 65 = 1 := by kernel_rfl) (w : World) : (Instr.index 67 (.agg A) (.int .i64 k)).run Tryd.prog w = .ok v w := by
  have h0 : ¬ ((k : Int) < 0) := by omega
  have hg : A[k]'(by omega) = v := by
    rw [Array.getElem?_eq_getElem (by omega)] at h
    injection h
  simp [Instr.index, run_underlying under67, asIntOf, h0, go_sem, hg, hk, hz]
set_option maxRecDepth 100000 in
theorem joined_any (s t : Nat → Nat) (w : World) (hs : okS s) (ht : okS t) :
    Calls Tryd.prog 71 #[.agg (setA s), .agg (setA t)] w fun e w' => e = .returned (.agg (setA (joinS s t))) ∧ Fr [] w w' := by
  have f1 : Fr [] w (w.alloc (.cells (setA s) 67)) := (Fr.refl _ _).alloc _
  have f2 : Fr [] (w.alloc (.cells (setA s) 67)) ((w.alloc (.cells (setA s) 67)).alloc (.cells (setA t) 67)) := (Fr.refl _ _).alloc _
  have f3 : Fr [] ((w.alloc (.cells (setA s) 67)).alloc (.cells (setA t) 67)) (((w.alloc (.cells (setA s) 67)).alloc (.cells (setA t) 67)).alloc (.cells zA 67)) := (Fr.refl _ _).alloc _
  have b0 : (((w.alloc (.cells (setA s) 67)).alloc (.cells (setA t) 67)).alloc (.cells zA 67)).heap[w.heap.size]? = some (.cells (setA s) 67 (0, 0)) := (f2.trans f3).at (heap_alloc_new w _) (by simp)
  have b1 : (((w.alloc (.cells (setA s) 67)).alloc (.cells (setA t) 67)).alloc (.cells zA 67)).heap[w.heap.size + 1]? = some (.cells (setA t) 67 (0, 0)) := f3.at (blk2 w _ _) (by simp)
  have b2 : (((w.alloc (.cells (setA s) 67)).alloc (.cells (setA t) 67)).alloc (.cells zA 67)).heap[w.heap.size + 2]? = some (.cells zA 67 (0, 0)) := by
    have h := heap_alloc_new ((w.alloc (.cells (setA s) 67)).alloc (.cells (setA t) 67)) (.cells zA 67)
    simp only [World.size_alloc] at h
    exact h
  have F3 := (f1.trans f2).trans f3
  have HZ : Hid (∀ s, (setA s).size = 16) := setA_size
  rw [zA_eq] at b0 b1 b2 F3
  clear f1 f2 f3
  go_enter Tryd.func71, Tryd.ntmps71
  go_wp2_with (refine wpList_load_row rfl 67 (.tmp 3) rfl (w.heap.size + 1) rfl 67 (setA t) (0, 0) (.array 16 65) b1 under67 rfl (by rw [HZ.out]; exact info67) ?_)
  generalize ((w.alloc (.cells (setA s) 67)).alloc (.cells (setA t) 67)).alloc _ = W at *
  have HF : Hid (Fr [] w W) := F3
  have HL : Hid (w.heap.size < W.heap.size) := (Array.getElem?_eq_some_iff.1 b0).1
  have HTS : Hid (∀ i, i < 16 → (setA t)[i]? = some (.int .u64 (t i : Nat))) := fun i hi => setA_at t hi
  have hts := setA_size t
  generalize setA t = TA at *
  clear F3
  go_loopw [8] (fun i wr => ∃ p : Nat, p ≤ 16 ∧ i = .int .i64 p ∧ wr.heap[w.heap.size]? = some (.cells (setA (joinT s t p)) 67 (0, 0)) ∧ Fr [w.heap.size] W wr) (fun i _ => 16 - (intOf i).toNat)
  case atStart => exact ⟨0, by omega, rfl, by rw [joinT_0]; exact b0, Fr.refl _ _⟩
  case round =>
    obtain ⟨p, hp, rfl, B0, fw⟩ := hrel
    by_cases hlt : p < 16
    · have hpI : (p : Int) < 16 := by omega
      have hc : wr.cell? ⟨w.heap.size, p, none⟩ = some (.int .u64 (s p : Nat)) := by
        have := at_cells B0 p (setA_at (joinT s t p) hlt)
        simpa [joinT] using this
      have hz : ∀ i, wr.frozen? ⟨w.heap.size, i, none⟩ = false := fun i => by simp [World.frozen?, B0]
      have htc := fun w' => ix67 TA p _ hts hlt (HTS.out p hlt) rfl w'
      have h1 := hs p
      have h2 := ht p
      have HJ : Hid _ := joinT_set s t p hlt
      have HB : Hid _ := B0
      clear B0
      generalize s p = x at *
      generalize t p = y at *
      go_wp2
      rw [bits_or_u64_nat _ _ h1 h2]
      refine ⟨⟨p + 1, hlt, by go_num, ?_, fw.setCell (.inl (by simp)) _⟩, by simp [intOf]; omega⟩
      rw [← HJ.out]
      exact set_at HB.out (by rw [HZ.out]; exact hlt)
    · obtain rfl : p = 16 := by omega
      have Z0 := fw.at b2 (by simp)
      rw [joinT_16] at B0
      have HF' : Hid (Fr [] w wr) := ((HF.out.sub (T := [w.heap.size]) (by simp)).trans fw).sub (fun k hk => .inr (by simp at hk; omega))
      have HZ' : Hid ((setA (joinS s t)).size = 16) := setA_size _
      have HO : Hid ((setA (joinS s t)).all (·.oneCell') = true) := setA_one _
      clear fw b0 b1 b2 hts HTS
      generalize hA : setA (joinS s t) = A at *
      have HE : Hid _ := hA
      clear hA
      have R1 : (wr.setRow (w.heap.size + 2) A).heap[w.heap.size + 2]? = some (.cells A 67 (0, 0)) := row_new Z0
      go_wp2_with (first
        | refine wpList_load_row rfl 67 (.tmp 2) rfl w.heap.size rfl 67 A (0, 0) (.array 16 65) B0 under67 rfl (by rw [HZ'.out]; exact info67) ?_
        | refine wpList_store_row rfl 67 (.tmp 4) (.tmp 19) rfl (w.heap.size + 2) A rfl rfl 67 _ Z0 (by rw [HZ'.out]; exact info67) (by rw [HZ'.out]; rfl) HO.out ?_)
      refine bodyPost_ret (results_cell_row rfl _ _ (w.heap.size + 2) 67 A (0, 0) (.array 16 65) rfl R1 under67 rfl (by rw [HZ'.out]; exact info67)) rfl ?_
      exact ⟨by rw [HE.out], HF'.out.setRow (.inr (by omega)) _⟩
end Go.Proofs.YtajdnakpljgkpaaDoor
