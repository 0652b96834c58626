/-
  The reference's heap: what it is that a block of memory is one with a list of things; New, Charge and At; no condition but the limit from 0 to 10,000,000 and what is taken from 0 to it.
-/
import Derived.Test.YtkjkpkmmojchiaaGreatDoorHeapN
namespace Go.Proofs.YtkjkpkmmojchiaaGreatDoor
open Go.RowKit

/-- A thing of the reference: its cells' slice, its sort, its cells. -/
structure RT where
  sl : Value
  sort : Int
  cells : List (Int × Int)

def RT.abs (u : RT) : Int × List (Int × Int) := (u.sort, u.cells)

/-- The cells of a list of things. -/
def rflat : List RT → List Value
  | [] => []
  | u :: r => .int .i64 u.sort :: u.sl :: rflat r

def RH (w : World) (r : Nat) (lim used : Int) (sv : Value) (rk rn : Int) : Prop :=
  w.heap[r]? = some (.cells #[sv, .int .i64 lim, .int .i64 used, .int .i64 rk, .int .i64 rn] 100 (0, 0))

section
variable {w : World} {r : Nat} {lim used : Int} {sv : Value} {rk rn : Int}
theorem RH.c0 (h : RH w r lim used sv rk rn) : w.cell? ⟨r, 0, none⟩ = some sv := by simp [RH] at h; simp [World.cell?, h]
theorem RH.c1 (h : RH w r lim used sv rk rn) : w.cell? ⟨r, 1, none⟩ = some (.int .i64 lim) := by simp [RH] at h; simp [World.cell?, h]
theorem RH.c2 (h : RH w r lim used sv rk rn) : w.cell? ⟨r, 2, none⟩ = some (.int .i64 used) := by simp [RH] at h; simp [World.cell?, h]
theorem RH.c3 (h : RH w r lim used sv rk rn) : w.cell? ⟨r, 3, none⟩ = some (.int .i64 rk) := by simp [RH] at h; simp [World.cell?, h]
theorem RH.c4 (h : RH w r lim used sv rk rn) : w.cell? ⟨r, 4, none⟩ = some (.int .i64 rn) := by simp [RH] at h; simp [World.cell?, h]
theorem RH.fz (h : RH w r lim used sv rk rn) (i : Nat) : w.frozen? ⟨r, i, none⟩ = false := by simp [RH] at h; simp [World.frozen?, h]
theorem RH.lt (h : RH w r lim used sv rk rn) : r < w.heap.size := (Array.getElem?_eq_some_iff.1 h).1
theorem RH.fr {S : List Nat} {w' : World} (h : RH w r lim used sv rk rn) (f : Fr S w w') (hb : r ∉ S) : RH w' r lim used sv rk rn := (f.block r h.lt hb).trans h
theorem RH.setUsed (h : RH w r lim used sv rk rn) (u : Int) : RH (w.setCell ⟨r, 2, none⟩ (.int .i64 u)) r lim u sv rk rn := by
  unfold RH at h ⊢
  simp [World.setCell, Array.getElem?_modify, h]
theorem RH.setThings (h : RH w r lim used sv rk rn) (s : Value) : RH (w.setCell ⟨r, 0, none⟩ s) r lim used s rk rn := by
  unfold RH at h ⊢
  simp [World.setCell, Array.getElem?_modify, h]
theorem RH.setRoot (h : RH w r lim used sv rk rn) (p q : Int) : RH ((w.setCell ⟨r, 3, none⟩ (.int .i64 p)).setCell ⟨r, 4, none⟩ (.int .i64 q)) r lim used sv p q := by
  unfold RH at h ⊢
  simp [World.setCell, Array.getElem?_modify, h]
theorem RH.ne_of (h : RH w r lim used sv rk rn) {k : Nat} {c : Array Value} {e : TypeId} {z : Nat × Nat} (hk : w.heap[k]? = some (.cells c e z)) (he : e ≠ 100) : k ≠ r := by
  rintro rfl
  unfold RH at h
  rw [h] at hk
  simp at hk
  exact he hk.2.1.symm
end

theorem own_ne2 {w : World} {B B' n n' : Nat} {e e' : TypeId} {size size' : Nat} {s s' : Value} {xs xs' : List Value} (h : w.ownsRow B e size s n xs) (h' : w.ownsRow B' e' size' s' n' xs') (he : e ≠ e') : ∀ k, s.ownBlock = some k → s'.ownBlock ≠ some k := by
  intro k hk
  rcases h.2 with ⟨rfl, _⟩ | ⟨g, cap, cur, rfl, _, hgg, _⟩
  · simp [Value.ownBlock] at hk
  · simp [Value.ownBlock] at hk
    subst hk
    exact own_ne h' hgg he

structure RRep (w : World) (B r : Nat) (lim used : Int) (sv : Value) (rk rn : Int) (U : List RT) : Prop where
  hb : RH w r lim used sv rk rn
  row : w.ownsRow B 103 2 sv U.length (rflat U)
  th : ∀ u, u ∈ U → w.ownsRow B 33 2 u.sl u.cells.length (flat u.cells)
  sep : U.Pairwise (fun u v => ∀ k, u.sl.ownBlock = some k → v.sl.ownBlock ≠ some k)
  base : B ≤ r

/-- What the reference's heap writes to. -/
def rfoot (r : Nat) (sv : Value) (U : List RT) : List Nat := r :: (sv.ownBlock.toList ++ U.flatMap fun u => u.sl.ownBlock.toList)

theorem RRep.lt {w : World} {B r : Nat} {lim used : Int} {sv : Value} {rk rn : Int} {U : List RT} (h : RRep w B r lim used sv rk rn U) : ∀ k, k ∈ rfoot r sv U → k < w.heap.size := by
  intro k hk
  unfold rfoot at hk
  simp only [List.mem_cons, List.mem_append, Option.mem_toList, List.mem_flatMap] at hk
  rcases hk with rfl | hk | ⟨u, hu, hk⟩
  · exact h.hb.lt
  · exact (h.row.lt k hk).2
  · exact ((h.th u hu).lt k hk).2

theorem RRep.fr {S : List Nat} {w w' : World} {B r : Nat} {lim used : Int} {sv : Value} {rk rn : Int} {U : List RT} (h : RRep w B r lim used sv rk rn U) (f : Fr S w w') (hS : ∀ k, k ∈ rfoot r sv U → k ∉ S) : RRep w' B r lim used sv rk rn U := by
  refine ⟨h.hb.fr f (hS _ (by simp [rfoot])), own_fr h.row f (fun k hk => hS k (by simp [rfoot, hk])), fun u hu => own_fr (h.th u hu) f (fun k hk => hS k ?_), h.sep, h.base⟩
  unfold rfoot
  simp only [List.mem_cons, List.mem_append, Option.mem_toList, List.mem_flatMap]
  exact .inr (.inr ⟨u, hu, hk⟩)

theorem RRep.frame {S : List Nat} {w w' : World} {B r : Nat} {lim used : Int} {sv : Value} {rk rn : Int} {U : List RT} (h : RRep w B r lim used sv rk rn U) (f : Fr S w w') (hS : ∀ k, k ∈ S → w.heap.size ≤ k) : RRep w' B r lim used sv rk rn U :=
  h.fr f (fun k hk hm => by have := h.lt k hk; have := hS k hm; omega)

theorem RRep.setUsed {w : World} {B r : Nat} {lim used : Int} {sv : Value} {rk rn : Int} {U : List RT} (h : RRep w B r lim used sv rk rn U) (u : Int) : RRep (w.setCell ⟨r, 2, none⟩ (.int .i64 u)) B r lim u sv rk rn U := by
  have f : Fr [r] w (w.setCell ⟨r, 2, none⟩ (.int .i64 u)) := (Fr.refl _ _).setCell (.inl (by simp)) _
  refine ⟨h.hb.setUsed u, own_fr h.row f ?_, fun v hv => own_fr (h.th v hv) f ?_, h.sep, h.base⟩
  · intro k hk hm
    simp at hm
    subst hm
    unfold RH at *
    exact own_ne h.row h.hb (by decide) hk
  · intro k hk hm
    simp at hm
    subst hm
    exact own_ne (h.th v hv) h.hb (by decide) hk

set_option maxHeartbeats 400000 in
theorem RNew_any (l : Int) (w : World) :
    Calls Tryz.prog 46 #[.int .i64 l] w fun e w' => e = .returned (.pointer (some ⟨w.heap.size, 0, none⟩)) ∧ w' = w.alloc (.cells #[.slice none 0 0, .int .i64 (cap0 l), .int .i64 0, .int .i64 0, .int .i64 0] 100) := by
  unfold cap0
  by_cases h1 : l < 0
  · go_enter Tryz.func46, Tryz.ntmps46
    go_wp2
    go_ret
    exact ⟨rfl, rfl⟩
  · by_cases h2 : 10000000 < l
    · go_enter Tryz.func46, Tryz.ntmps46
      go_wp2
      go_ret
      exact ⟨rfl, rfl⟩
    · go_enter Tryz.func46, Tryz.ntmps46
      go_wp2
      go_ret
      exact ⟨rfl, rfl⟩

theorem RRep.new (w : World) (l : Int) : RRep (w.alloc (.cells #[.slice none 0 0, .int .i64 (cap0 l), .int .i64 0, .int .i64 0, .int .i64 0] 100)) w.heap.size w.heap.size (cap0 l) 0 (.slice none 0 0) 0 0 [] :=
  ⟨heap_alloc_new w _, World.ownsRow_nil _ _ _ _, fun _ ht => by simp at ht, List.Pairwise.nil, Nat.le_refl _⟩

set_option maxHeartbeats 400000 in
theorem rcharge_neg {b : Nat} (w : World) (n : Int) (hn : n < 0) :
    Calls Tryz.prog 151 #[.pointer (some ⟨b, 0, none⟩), .int .i64 n] w fun e w' => e = .returned (.int .i64 6) ∧ w' = w := by
  go_enter Tryz.func151, Tryz.ntmps151
  go_wp2
  go_ret
  exact ⟨rfl, rfl⟩

set_option maxHeartbeats 400000 in
theorem rcharge_no {b : Nat} {lim used : Int} {sv : Value} {rk rn : Int} (w : World) (h : RH w b lim used sv rk rn) (n : Int) (hn : 0 ≤ n) (hl : 0 ≤ lim) (hu : 0 ≤ used) (hul : used ≤ lim) (hlm : lim ≤ 10000000) (hc : lim - used < n) :
    Calls Tryz.prog 151 #[.pointer (some ⟨b, 0, none⟩), .int .i64 n] w fun e w' => e = .returned (.int .i64 5) ∧ ∃ k, w' = w.drewN k := by
  have c1 := h.c1
  have c2 := h.c2
  clear h
  go_enter Tryz.func151, Tryz.ntmps151
  go_wp2
  go_quiet (fail)
  go_wp2
  go_ret
  exact ⟨rfl, _, rfl⟩

set_option maxHeartbeats 400000 in
theorem rcharge_yes {b : Nat} {lim used : Int} {sv : Value} {rk rn : Int} (w : World) (h : RH w b lim used sv rk rn) (n : Int) (hn : 0 ≤ n) (hl : 0 ≤ lim) (hu : 0 ≤ used) (hul : used ≤ lim) (hlm : lim ≤ 10000000) (hc : n ≤ lim - used) :
    Calls Tryz.prog 151 #[.pointer (some ⟨b, 0, none⟩), .int .i64 n] w fun e w' => e = .returned (.int .i64 0) ∧ ∃ k, w' = (w.drewN k).setCell ⟨b, 2, none⟩ (.int .i64 (used + n)) := by
  have c1 := h.c1
  have c2 := h.c2
  have z2 := h.fz 2
  clear h
  go_enter Tryz.func151, Tryz.ntmps151
  go_wp2
  go_quiet (fail)
  go_wp2
  go_ret
  exact ⟨rfl, _, rfl⟩

set_option maxHeartbeats 400000 in
theorem charge_neg {b : Nat} {lim used : Int} {sv : Value} {rk rn : Int} (w : World) (h : HB w b lim used sv rk rn) (n : Int) (hn : n < 0) :
    Calls Tryz.prog 161 #[.pointer (some ⟨b, 0, none⟩), .int .i64 n] w fun e w' => e = .returned (.int .i64 6) ∧ w' = w := by
  have c0 := h.c0
  clear h
  go_enter Tryz.func161, Tryz.ntmps161
  go_wp2
  go_ret
  exact ⟨rfl, rfl⟩

theorem RRep.slice {w : World} {B b : Nat} {lim used : Int} {sv : Value} {rk rn : Int} {U : List RT} (h : RRep w B b lim used sv rk rn U) : ∃ a c, sv = .slice a U.length c := by
  rcases h.row.2 with ⟨e1, e2⟩ | ⟨g, cap, cur, e, _⟩
  · exact ⟨none, 0, by rw [e1, e2]⟩
  · exact ⟨_, cap, e⟩

/-- A value that names no thing. -/
def badN (n0 : Nat) (k n : Int) : Prop := ¬ (k = 2 ∧ 0 ≤ n ∧ n < n0)

set_option maxHeartbeats 400000 in
theorem At_kind {w : World} {b : Nat} (k n : Int) (h : k ≠ 2) :
    Calls Tryz.prog 131 #[.pointer (some ⟨b, 0, none⟩), .agg #[.int .i64 k, .int .i64 n]] w fun e w' => e = .returned (.int .i64 (-1)) ∧ Fr [] w w' := by
  have h3 : (k != 2) = true := by rw [bne_iff_ne]; exact h
  go_enter Tryz.func131, Tryz.ntmps131
  go_wp2
  go_quiet (fail)
  go_wp2
  go_ret
  exact ⟨rfl, Fr.drewN ((Fr.refl _ _).alloc _) _⟩

set_option maxHeartbeats 400000 in
theorem At_neg {w : World} {b : Nat} (n : Int) (h1 : n < 0) :
    Calls Tryz.prog 131 #[.pointer (some ⟨b, 0, none⟩), .agg #[.int .i64 2, .int .i64 n]] w fun e w' => e = .returned (.int .i64 (-1)) ∧ Fr [] w w' := by
  have hd : decide (n < 0) = true := by simpa using h1
  go_enter Tryz.func131, Tryz.ntmps131
  go_wp2
  go_quiet (fail)
  go_wp2
  go_ret
  exact ⟨rfl, Fr.drewN ((Fr.refl _ _).alloc _) _⟩

set_option maxHeartbeats 400000 in
theorem At_big {w : World} {B b : Nat} {lim used : Int} {sv : Value} {rk rn : Int} {U : List RT} (R : RRep w B b lim used sv rk rn U) (n : Int) (h0 : 0 ≤ n) (h1 : (U.length : Int) ≤ n) :
    Calls Tryz.prog 131 #[.pointer (some ⟨b, 0, none⟩), .agg #[.int .i64 2, .int .i64 n]] w fun e w' => e = .returned (.int .i64 (-1)) ∧ Fr [] w w' := by
  obtain ⟨a, c, rfl⟩ := R.slice
  have c3 := fun o => (R.hb.fr (S := []) ((Fr.refl _ _).alloc o) (by simp)).c0
  have hd : decide (n < 0) = false := by simpa using h0
  have hd2 : decide ((U.length : Int) ≤ n) = true := by simpa using h1
  have hlt := R.hb.lt
  go_enter Tryz.func131, Tryz.ntmps131
  go_wp2
  go_quiet (fail)
  go_wp2
  go_ret
  exact ⟨rfl, Fr.drewN ((Fr.refl _ _).alloc _) _⟩

set_option maxHeartbeats 400000 in
theorem At_ok {w : World} {B b : Nat} {lim used : Int} {sv : Value} {rk rn : Int} {U : List RT} (R : RRep w B b lim used sv rk rn U) (n : Int) (h0 : 0 ≤ n) (h1 : n < (U.length : Int)) :
    Calls Tryz.prog 131 #[.pointer (some ⟨b, 0, none⟩), .agg #[.int .i64 2, .int .i64 n]] w fun e w' => e = .returned (.int .i64 n) ∧ Fr [] w w' := by
  obtain ⟨a, c, rfl⟩ := R.slice
  have c3 := fun o => (R.hb.fr (S := []) ((Fr.refl _ _).alloc o) (by simp)).c0
  have hd : decide (n < 0) = false := by simpa using h0
  have hd2 : decide ((U.length : Int) ≤ n) = false := by simpa using h1
  have hlt := R.hb.lt
  go_enter Tryz.func131, Tryz.ntmps131
  go_wp2
  go_quiet (fail)
  go_wp2
  go_ret
  exact ⟨rfl, Fr.drewN ((Fr.refl _ _).alloc _) _⟩

theorem At_bad {w : World} {B b : Nat} {lim used : Int} {sv : Value} {rk rn : Int} {U : List RT} (R : RRep w B b lim used sv rk rn U) (k n : Int) (h : badN U.length k n) :
    Calls Tryz.prog 131 #[.pointer (some ⟨b, 0, none⟩), .agg #[.int .i64 k, .int .i64 n]] w fun e w' => e = .returned (.int .i64 (-1)) ∧ Fr [] w w' := by
  by_cases h2 : k = 2
  · subst h2
    by_cases h3 : n < 0
    · exact At_neg n h3
    · exact At_big R n (by omega) (by unfold badN at h; omega)
  · exact At_kind k n h2

set_option maxHeartbeats 400000 in
theorem Ref_any (w : World) (n : Int) : Calls Tryz.prog 48 #[.int .i64 n] w fun e w' => e = .returned (.agg #[.int .i64 2, .int .i64 n]) ∧ Fr [] w w' := by
  go_enter Tryz.func48, Tryz.ntmps48
  go_wp2
  refine bodyPost_ret (v := .agg #[.int .i64 2, .int .i64 n]) (by simp [results, Tryz.results48, go_sem]) rfl ⟨rfl, ?_⟩
  exact (Fr.refl _ _).alloc _
end Go.Proofs.YtkjkpkmmojchiaaGreatDoor
