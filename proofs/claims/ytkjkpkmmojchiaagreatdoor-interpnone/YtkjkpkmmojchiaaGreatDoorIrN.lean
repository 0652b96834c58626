/-
  An instruction without some of its fields; conditions: it lies as told.
-/
import Derived.Test.YtkjkpkmmojchiaaGreatDoorIrM
namespace Go.Proofs.YtkjkpkmmojchiaaGreatDoor
open Go.RowKit
set_option linter.unusedVariables false
set_option linter.unusedSimpArgs false

def wo1 (x : In) (c : Nat) : In :=
  if c = 65 then { x with a := 0 } else if c = 66 then { x with b := 0 } else if c = 67 ∨ c = 99 then { x with c := 0 } else if c = 75 then { x with k := 0 } else if c = 76 then { x with la := none, lc := 0, l := [] } else x
def woL (x : In) (l : List UInt8) : In := l.foldl (fun y c => wo1 y c.toNat) x
theorem woL_take {s : ByteArray} {p : Nat} (h : p < s.size) (x : In) : woL x (s.data.toList.take (p + 1)) = wo1 (woL x (s.data.toList.take p)) s[p].toNat := by
  have : s.data.toList.take (p + 1) = s.data.toList.take p ++ [s[p]] := by
    rw [List.take_add_one]
    congr 1
    rw [List.getElem?_eq_getElem (by simpa using h)]
    rfl
  rw [this]
  simp [woL]
theorem set_cells {W : World} {k : Nat} {cs : Array Value} {t : TypeId} (j : Nat) (v : Value) (h : W.heap[k]? = some (.cells cs t (0, 0))) : (W.setCell ⟨k, j, none⟩ v).heap[k]? = some (.cells (cs.setIfInBounds j v) t (0, 0)) := by
  rw [heap_setCell_same _ _ _ _ _ _ h]
theorem set_oth {W : World} {k j i : Nat} {v : Value} {o : Obj} (hk : k ≠ j) (h : W.heap[k]? = some o) : (W.setCell ⟨j, i, none⟩ v).heap[k]? = some o := (Below.heap_setCell _ _ _ _ (by simpa using hk)).trans h

/-- What stands while letters are gone through. -/
structure WoI (s : ByteArray) (x : In) (w : World) (pos : Nat) (wr : World) : Prop where
  le : pos ≤ s.size
  it : wr.heap[w.heap.size + 1 + 1]? = some (.stringIter s pos)
  fr : Fr [] w wr
  box : wr.heap[w.heap.size]? = some (.cells (woL x (s.data.toList.take pos)).arr 80 (0, 0))
  res : wr.heap[w.heap.size + 1]? = some (.cells #[.int .i64 0, .int .i64 0, .int .i64 0, .int .i64 0, .int .i64 0, .slice none 0 0] 80 (0, 0))
theorem WoI.next {s : ByteArray} {x : In} {w : World} {pos : Nat} {wr : World} (h : WoI s x w pos wr) (hp : pos < s.size) {j : Nat} {v : Value} (hn : (wo1 (woL x (s.data.toList.take pos)) s[pos].toNat).arr = (woL x (s.data.toList.take pos)).arr.setIfInBounds j v) :
    WoI s x w (pos + 1) ((wr.iterAt (w.heap.size + 1 + 1) s (pos + 1)).setCell ⟨w.heap.size, j, none⟩ v) := by
  have f1 := Fr.iterAt wr (w.heap.size + 1 + 1) s (pos + 1)
  have i1 := Lib.iterAt_heap wr (w.heap.size + 1 + 1) s pos (pos + 1) h.it
  have b1 := (f1.block _ (Array.getElem?_eq_some_iff.1 h.box).1 (by simp; omega)).trans h.box
  have r1 := (f1.block _ (Array.getElem?_eq_some_iff.1 h.res).1 (by simp)).trans h.res
  refine ⟨hp, set_oth (by omega) i1, ?_, ?_, set_oth (by omega) r1⟩
  · exact (((h.fr.sub (T := [w.heap.size + 1 + 1, w.heap.size]) (by simp)).trans (f1.sub (fun k hk => .inl (by simp at hk ⊢; exact .inl hk)))).setCell (p := ⟨w.heap.size, j, none⟩) (.inl (by simp)) v).sub (fun k hk => .inr (by simp at hk; omega))
  · rw [woL_take hp, hn]
    exact set_cells j v b1
theorem WoI.skip {s : ByteArray} {x : In} {w : World} {pos : Nat} {wr : World} (h : WoI s x w pos wr) (hp : pos < s.size) (hn : wo1 (woL x (s.data.toList.take pos)) s[pos].toNat = woL x (s.data.toList.take pos)) :
    WoI s x w (pos + 1) (wr.iterAt (w.heap.size + 1 + 1) s (pos + 1)) := by
  have f1 := Fr.iterAt wr (w.heap.size + 1 + 1) s (pos + 1)
  have i1 := Lib.iterAt_heap wr (w.heap.size + 1 + 1) s pos (pos + 1) h.it
  have b1 := (f1.block _ (Array.getElem?_eq_some_iff.1 h.box).1 (by simp; omega)).trans h.box
  have r1 := (f1.block _ (Array.getElem?_eq_some_iff.1 h.res).1 (by simp)).trans h.res
  refine ⟨hp, i1, ?_, ?_, r1⟩
  · exact ((h.fr.sub (T := [w.heap.size + 1 + 1]) (by simp)).trans f1).sub (fun k hk => .inr (by simp at hk; omega))
  · rw [woL_take hp, hn]
    exact b1

set_option maxRecDepth 100000 in
set_option maxHeartbeats 4000000 in
theorem without_any (s : ByteArray) (hs : s.size ≤ 10) (has : ∀ i (h : i < s.size), (s[i]'h).toNat < 128) (x : In) (w : World) :
    Calls Tryz.prog 177 #[.agg x.arr, .string s] w fun e w' => e = .returned (.agg (woL x s.data.toList).arr) ∧ Fr [] w w' := by
  have R0 : WoI s x w 0 (((w.alloc (.cells x.arr 80)).alloc (.cells #[.int .i64 0, .int .i64 0, .int .i64 0, .int .i64 0, .int .i64 0, .slice none 0 0] 80)).iter s 0) := by
    have f1 : Fr [] (w.alloc (.cells x.arr 80)) ((w.alloc (.cells x.arr 80)).alloc (.cells #[.int .i64 0, .int .i64 0, .int .i64 0, .int .i64 0, .int .i64 0, .slice none 0 0] 80)) := (Fr.refl _ _).alloc _
    have b0 := heap_alloc_new w (.cells x.arr 80)
    have b1 := heap_alloc_new (w.alloc (.cells x.arr 80)) (.cells #[.int .i64 0, .int .i64 0, .int .i64 0, .int .i64 0, .int .i64 0, .slice none 0 0] 80)
    have b2 := World.iter_heap ((w.alloc (.cells x.arr 80)).alloc (.cells #[.int .i64 0, .int .i64 0, .int .i64 0, .int .i64 0, .int .i64 0, .slice none 0 0] 80)) s 0
    simp only [World.size_alloc] at b1 b2
    have f2 : Fr [] ((w.alloc (.cells x.arr 80)).alloc (.cells #[.int .i64 0, .int .i64 0, .int .i64 0, .int .i64 0, .int .i64 0, .slice none 0 0] 80)) (((w.alloc (.cells x.arr 80)).alloc (.cells #[.int .i64 0, .int .i64 0, .int .i64 0, .int .i64 0, .int .i64 0, .slice none 0 0] 80)).iter s 0) := (Fr.refl _ _).alloc _
    refine ⟨Nat.zero_le _, b2, (((Fr.refl _ _).alloc _).alloc _).alloc _, ?_, (f2.block _ (Array.getElem?_eq_some_iff.1 b1).1 (by simp)).trans b1⟩
    exact ((f1.trans f2).block _ (Array.getElem?_eq_some_iff.1 b0).1 (by simp)).trans b0
  have HA : Hid (x.arr = x.arr) := rfl
  unfold In.arr at R0 ⊢
  go_enter Tryz.func177, Tryz.ntmps177
  go_wp2
  go_loopw [6] (fun _ wr => ∃ pos, WoI s x w pos wr) (fun _ wr => s.size - wr.iterPos (w.heap.size + 1 + 1))
  case atStart => exact ⟨0, R0⟩
  case round =>
    obtain ⟨pos, hR⟩ := hrel
    clear R0
    have HR : Hid (WoI s x w pos wr) := hR
    have hit := hR.it
    have hmu : wr.iterPos (w.heap.size + 1 + 1) = pos := iterPos_of hit
    by_cases hp : pos < s.size
    · have hc := has pos hp
      have hnx := fun ty => Lib.run_next_ascii_at (P := Tryz.prog) wr (w.heap.size + 1 + 1) s pos ty hit hp hc
      have NX := @WoI.next s x w pos wr hR hp
      have SK := @WoI.skip s x w pos wr hR hp
      have f1 := Fr.iterAt wr (w.heap.size + 1 + 1) s (pos + 1)
      have bx := (f1.block _ (Array.getElem?_eq_some_iff.1 hR.box).1 (by simp; omega)).trans hR.box
      have hmu3 : ∀ {w3 : World}, WoI s x w (pos + 1) w3 → w3.iterPos (w.heap.size + 1 + 1) = pos + 1 := fun h => iterPos_of h.it
      generalize woL x (s.data.toList.take pos) = y at *
      generalize s[pos].toNat = c at *
      clear hR has
      generalize wr.iterAt (w.heap.size + 1 + 1) s (pos + 1) = W1 at *
      have zf : ∀ j, W1.frozen? ⟨w.heap.size, j, none⟩ = false := fun j => by simp [World.frozen?, bx]
      unfold In.arr at bx
      have q1 : W1.cell? ⟨w.heap.size, 1, none⟩ = some (.int .i64 y.a) := at_cells bx 1 rfl
      have q2 : W1.cell? ⟨w.heap.size, 2, none⟩ = some (.int .i64 y.b) := at_cells bx 2 rfl
      have q3 : W1.cell? ⟨w.heap.size, 3, none⟩ = some (.int .i64 y.c) := at_cells bx 3 rfl
      have q4 : W1.cell? ⟨w.heap.size, 4, none⟩ = some (.int .i64 y.k) := at_cells bx 4 rfl
      have q5 : W1.cell? ⟨w.heap.size, 5, none⟩ = some (.slice y.la y.l.length y.lc) := at_cells bx 5 rfl
      have z1 := zf 1
      have z2 := zf 2
      have z3 := zf 3
      have z4 := zf 4
      have z5 := zf 5
      clear zf bx
      by_cases e1 : c = 65
      · subst e1
        have R3 := NX (j := 1) (v := .int .i64 0) rfl
        have hm3 := hmu3 R3
        clear NX SK
        go_wp2
        go_roundw
        case rel => exact ⟨pos + 1, R3⟩
        case measure => rw [hmu, hm3]; omega
      · have d1 : ((c : Int) == 65) = false := beq_int_false (by omega)
        by_cases e2 : c = 66
        · subst e2
          have R3 := NX (j := 2) (v := .int .i64 0) rfl
          have hm3 := hmu3 R3
          clear NX SK
          go_wp2
          go_roundw
          case rel => exact ⟨pos + 1, R3⟩
          case measure => rw [hmu, hm3]; omega
        · have d2 : ((c : Int) == 66) = false := beq_int_false (by omega)
          by_cases e3 : c = 67
          · subst e3
            have R3 := NX (j := 3) (v := .int .i64 0) rfl
            have hm3 := hmu3 R3
            clear NX SK
            go_wp2
            go_roundw
            case rel => exact ⟨pos + 1, R3⟩
            case measure => rw [hmu, hm3]; omega
          · have d3 : ((c : Int) == 67) = false := beq_int_false (by omega)
            by_cases e4 : c = 99
            · subst e4
              have R3 := NX (j := 3) (v := .int .i64 0) rfl
              have hm3 := hmu3 R3
              clear NX SK
              go_wp2
              go_roundw
              case rel => exact ⟨pos + 1, R3⟩
              case measure => rw [hmu, hm3]; omega
            · have d4 : ((c : Int) == 99) = false := beq_int_false (by omega)
              by_cases e5 : c = 75
              · subst e5
                have R3 := NX (j := 4) (v := .int .i64 0) rfl
                have hm3 := hmu3 R3
                clear NX SK
                go_wp2
                go_roundw
                case rel => exact ⟨pos + 1, R3⟩
                case measure => rw [hmu, hm3]; omega
              · have d5 : ((c : Int) == 75) = false := beq_int_false (by omega)
                by_cases e6 : c = 76
                · subst e6
                  have R3 := NX (j := 5) (v := .slice none 0 0) rfl
                  have hm3 := hmu3 R3
                  clear NX SK
                  go_wp2
                  go_roundw
                  case rel => exact ⟨pos + 1, R3⟩
                  case measure => rw [hmu, hm3]; omega
                · have d6 : ((c : Int) == 76) = false := beq_int_false (by omega)
                  have R3 := SK (by simp [wo1, e1, e2, e3, e4, e5, e6])
                  have hm3 := hmu3 R3
                  clear NX SK e1 e2 e3 e4 e5 e6
                  go_wp2
                  go_roundw
                  case rel => exact ⟨pos + 1, R3⟩
                  case measure => rw [hmu, hm3]; omega
    · have hnx := fun ty => Lib.run_next_end_at (P := Tryz.prog) wr (w.heap.size + 1 + 1) s pos ty hit hp
      have HE : Hid (s.data.toList.take pos = s.data.toList) := List.take_of_length_le (by simp; omega)
      have bx := hR.box
      have rs := hR.res
      rw [HE.out] at bx
      have HF : Hid (Fr [] w wr) := hR.fr
      obtain ⟨y, hy⟩ : ∃ y, y = woL x s.data.toList := ⟨_, rfl⟩
      rw [← hy] at bx
      have HY : Hid (y = woL x s.data.toList) := hy
      clear hR HR hy
      unfold In.arr at bx
      have q0 : wr.cell? ⟨w.heap.size, 0, none⟩ = some (.int .i64 y.op) := at_cells bx 0 rfl
      have q1 : wr.cell? ⟨w.heap.size, 1, none⟩ = some (.int .i64 y.a) := at_cells bx 1 rfl
      have q2 : wr.cell? ⟨w.heap.size, 2, none⟩ = some (.int .i64 y.b) := at_cells bx 2 rfl
      have q3 : wr.cell? ⟨w.heap.size, 3, none⟩ = some (.int .i64 y.c) := at_cells bx 3 rfl
      have q4 : wr.cell? ⟨w.heap.size, 4, none⟩ = some (.int .i64 y.k) := at_cells bx 4 rfl
      have q5 : wr.cell? ⟨w.heap.size, 5, none⟩ = some (.slice y.la y.l.length y.lc) := at_cells bx 5 rfl
      have r0 : wr.cell? ⟨w.heap.size + 1, 0, none⟩ = some (.int .i64 0) := at_cells rs 0 rfl
      have r1 : wr.cell? ⟨w.heap.size + 1, 1, none⟩ = some (.int .i64 0) := at_cells rs 1 rfl
      have r2 : wr.cell? ⟨w.heap.size + 1, 2, none⟩ = some (.int .i64 0) := at_cells rs 2 rfl
      have r3 : wr.cell? ⟨w.heap.size + 1, 3, none⟩ = some (.int .i64 0) := at_cells rs 3 rfl
      have r4 : wr.cell? ⟨w.heap.size + 1, 4, none⟩ = some (.int .i64 0) := at_cells rs 4 rfl
      have r5 : wr.cell? ⟨w.heap.size + 1, 5, none⟩ = some (.slice none 0 0) := at_cells rs 5 rfl
      have zf : ∀ j, wr.frozen? ⟨w.heap.size + 1, j, none⟩ = false := fun j => by simp [World.frozen?, rs]
      have z0 := zf 0
      have z1 := zf 1
      have z2 := zf 2
      have z3 := zf 3
      have z4 := zf 4
      have z5 := zf 5
      clear zf
      go_wp2
      have hres := set_cells 5 (.slice y.la y.l.length y.lc) (set_cells 4 (.int .i64 y.k) (set_cells 3 (.int .i64 y.c) (set_cells 2 (.int .i64 y.b) (set_cells 1 (.int .i64 y.a) (set_cells 0 (.int .i64 y.op) rs)))))
      have hfr : Fr [w.heap.size + 1] w _ := ((((((HF.out.sub (T := [w.heap.size + 1]) (by simp)).setCell (p := ⟨w.heap.size + 1, 0, none⟩) (.inl (by simp)) (.int .i64 y.op)).setCell (p := ⟨w.heap.size + 1, 1, none⟩) (.inl (by simp)) (.int .i64 y.a)).setCell (p := ⟨w.heap.size + 1, 2, none⟩) (.inl (by simp)) (.int .i64 y.b)).setCell (p := ⟨w.heap.size + 1, 3, none⟩) (.inl (by simp)) (.int .i64 y.c)).setCell (p := ⟨w.heap.size + 1, 4, none⟩) (.inl (by simp)) (.int .i64 y.k)).setCell (p := ⟨w.heap.size + 1, 5, none⟩) (.inl (by simp)) (.slice y.la y.l.length y.lc)
      refine bodyPost_ret (results_cell_row (by rfl) _ _ (w.heap.size + 1) 80 _ (0, 0) _ rfl hres Tryz.underlying80 rfl (by kernel_rfl)) rfl ⟨?_, hfr.sub (fun k hk => .inr (by simp at hk; omega))⟩
      rw [← HY.out]
      rfl
end Go.Proofs.YtkjkpkmmojchiaaGreatDoor
