/-
  One token, by the program; condition: the tables lie as the program's text lays them.
-/
import Derived.Test.YtekjfddcbcijdaaGreatDoorLexL
import Derived.Lib.BufferWrite
namespace Go.Proofs.YtekjfddcbcijdaaGreatDoor
open Go.RowKit
set_option maxRecDepth 100000

theorem info5 : (Tryz.prog.info? 5).map (fun i => (i.zero, i.size, i.bytes)) = some (some (.int .u8 0), 1, 1) := by kernel_rfl
theorem under106 : Tryz.prog.underlying 89 = some (.slice 5) := by kernel_rfl
theorem under144 : Tryz.prog.underlying 93 = some (.pointer 5) := by kernel_rfl

set_option maxHeartbeats 1000000 in
theorem clone_any (s : ByteArray) (w : World) (hlim : s.size ≤ 281474976710656) :
    Calls Tryz.prog 80 #[.string s] w fun e w' => e = .returned (.string s) ∧ Fr [] w w' := by
  by_cases h0 : s.size = 0
  · have hs : s = ⟨#[]⟩ := by
      apply ByteArray.ext
      exact Array.eq_empty_of_size_eq_zero h0
    subst hs
    go_enter Tryz.func80, Tryz.ntmps80
    go_wp2
    go_ret
    exact ⟨rfl, Fr.refl _ _⟩
  · obtain ⟨i0, hi, hz0, hz1, hz2⟩ := info_parts info5
    have hinfo : (Tryz.prog.info? 5).map (·.size) = some 1 := by rw [hi]; simp [hz1]
    have hco : Tryz.prog.cellsOf 5 = 1 := by simp [Program.cellsOf, hi, hz1]
    obtain ⟨M, hM⟩ : ∃ M, M = madeCells (Value.int .u8 0).cells (((s.size : Nat) : Int).toNat * i0.size) := ⟨_, rfl⟩
    have hMs : M.size = s.size := by rw [hM, size_madeCells, hz1]; simp
    have hmk : ∀ W : World, (Instr.makeSlice 89 (.int .i64 (s.size : Int)) (.int .i64 (s.size : Int))).run Tryz.prog W = .ok (.slice (some ⟨W.heap.size, 0, none⟩) s.size s.size) (W.alloc (.cells M 5)) := fun W => by
      have h := run_make (P := Tryz.prog) W 89 5 i0 (.int .u8 0) under106 hi hz0 .i64 .i64 (s.size : Int) (s.size : Int) (by omega) (by omega) (by rw [hz2]; omega) (by omega)
      rw [← hM] at h
      simpa using h
    clear hM
    have hcp := Lib.run_copy_row_string (P := Tryz.prog) (w.alloc (.cells M 5)) 89 9 3 5 w.heap.size 0 s.size s.size s M 5 under106 hinfo (heap_alloc_new w _) (Nat.le_refl _) (by omega)
    obtain ⟨Y, hY⟩ : ∃ Y, Y = (M.toList.take 0 ++ Lib.byteCells s.data.toList ++ M.toList.drop (0 + s.size)).toArray := ⟨_, rfl⟩
    rw [← hY] at hcp
    have hYl : Y.toList = Lib.byteCells s.data.toList := by
      rw [hY, List.toList_toArray, List.take_zero, List.nil_append, List.drop_of_length_le (by rw [Array.length_toList]; omega), List.append_nil]
    have hYs : Y.size = s.size := by rw [← Array.length_toList, hYl, Lib.byteCells_length, ← Lib.size_eq]
    have hgY : ((w.alloc (.cells M 5)).setRow w.heap.size Y).heap[w.heap.size]? = some (.cells Y 5 (0, 0)) := setRow_heap _ _ M _ 5 (0, 0) (heap_alloc_new w _)
    have hne : s.data.toList ≠ [] := fun e => h0 (by rw [Lib.size_eq, e]; rfl)
    have hUS := Lib.run_unsafeString_row (P := Tryz.prog) ((w.alloc (.cells M 5)).setRow w.heap.size Y) 93 3 9 5 under144 hco w.heap.size Y.size (by unfold World.shape?; rw [hgY]) s.data.toList hne (by rw [← Lib.size_eq]; omega) (by rw [← Lib.size_eq]; omega)
      (fun j x hx => Lib.cells_of_row hgY Y.size j _ (by rw [List.take_of_length_le (by rw [Array.length_toList]; exact Nat.le_refl _), hYl]; simp [Lib.byteCells, hx]))
    rw [← Lib.size_eq] at hUS
    clear hY
    go_enter Tryz.func80, Tryz.ntmps80
    go_wp2
    go_ret
    have hb1 : Below w.heap.size w (w.alloc (.cells M 5)) := (Below.refl _ w).alloc (Nat.le_refl _) _
    have hb2 : Below w.heap.size (w.alloc (.cells M 5)) ((w.alloc (.cells M 5)).setRow w.heap.size Y) := ⟨rfl, rfl, rfl, by simp, fun k hk => setRow_other _ _ _ _ (by omega)⟩
    exact ⟨rfl, Fr.ofBelow (Lib.below_freeze (hb1.trans hb2) (p := ⟨w.heap.size, 0, none⟩) (Nat.le_refl _) _)⟩

theorem cloneS_any (s : ByteArray) (w : World) (hlim : s.size ≤ 281474976710656) :
    Calls Tryz.prog 70 #[.string s] w fun e w' => e = .returned (.string s) ∧ Fr [] w w' := by
  go_enter Tryz.func70, Tryz.ntmps70
  go_wp2_with (go_at_call 80; refine (clone_any _ _ hlim).mono ?_; rintro e w' ⟨rfl, hF⟩)
  go_ret
  exact ⟨rfl, hF⟩

/-- Block B holds a token. -/
def TB (w : World) (B : Nat) (v0 v1 v2 v3 v4 : Value) : Prop := w.heap[B]? = some (.cells #[v0, v1, v2, v3, v4] 43 (0, 0))
section
variable {w w' : World} {B : Nat} {v0 v1 v2 v3 v4 : Value}
theorem TB.c0 (h : TB w B v0 v1 v2 v3 v4) : w.cell? ⟨B, 0, none⟩ = some v0 := by simp [TB] at h; simp [World.cell?, h]
theorem TB.c1 (h : TB w B v0 v1 v2 v3 v4) : w.cell? ⟨B, 1, none⟩ = some v1 := by simp [TB] at h; simp [World.cell?, h]
theorem TB.c2 (h : TB w B v0 v1 v2 v3 v4) : w.cell? ⟨B, 2, none⟩ = some v2 := by simp [TB] at h; simp [World.cell?, h]
theorem TB.c3 (h : TB w B v0 v1 v2 v3 v4) : w.cell? ⟨B, 3, none⟩ = some v3 := by simp [TB] at h; simp [World.cell?, h]
theorem TB.c4 (h : TB w B v0 v1 v2 v3 v4) : w.cell? ⟨B, 4, none⟩ = some v4 := by simp [TB] at h; simp [World.cell?, h]
theorem TB.fz (h : TB w B v0 v1 v2 v3 v4) (i : Nat) : w.frozen? ⟨B, i, none⟩ = false := by simp [TB] at h; simp [World.frozen?, h]
theorem TB.lt (h : TB w B v0 v1 v2 v3 v4) : B < w.heap.size := (Array.getElem?_eq_some_iff.1 h).1
theorem TB.new (w : World) (v0 v1 v2 v3 v4 : Value) : TB (w.alloc (.cells #[v0, v1, v2, v3, v4] 43)) w.heap.size v0 v1 v2 v3 v4 := heap_alloc_new w _
theorem TB.fr {S : List Nat} (h : TB w B v0 v1 v2 v3 v4) (f : Fr S w w') (hS : B ∉ S) : TB w' B v0 v1 v2 v3 v4 := (f.block _ h.lt hS).trans h
theorem TB.drewN (h : TB w B v0 v1 v2 v3 v4) (n : Nat) : TB (w.drewN n) B v0 v1 v2 v3 v4 := h
theorem TB.set (h : TB w B v0 v1 v2 v3 v4) (u0 u1 u2 u3 u4 : Value) : TB (((((w.setCell ⟨B, 0, none⟩ u0).setCell ⟨B, 1, none⟩ u1).setCell ⟨B, 2, none⟩ u2).setCell ⟨B, 3, none⟩ u3).setCell ⟨B, 4, none⟩ u4) B u0 u1 u2 u3 u4 := by
  unfold TB at *
  simp [World.setCell, Array.getElem?_modify, h]
theorem TB.fset {S : List Nat} {a : World} (f : Fr S a w) (hB : B ∈ S ∨ a.heap.size ≤ B) (u0 u1 u2 u3 u4 : Value) : Fr S a (((((w.setCell ⟨B, 0, none⟩ u0).setCell ⟨B, 1, none⟩ u1).setCell ⟨B, 2, none⟩ u2).setCell ⟨B, 3, none⟩ u3).setCell ⟨B, 4, none⟩ u4) :=
  ((((f.setCell hB _).setCell hB _).setCell hB _).setCell hB _).setCell hB _
end

set_option maxHeartbeats 1000000 in
theorem made_any (kd a b : Nat) (s : ByteArray) (w : World) (hs : s.size ≤ 2 ^ 40) (hab : a ≤ b) (hb : b ≤ s.size) :
    Calls Tryz.prog 51 #[.int .i64 kd, .string s, .int .i64 a, .int .i64 b] w fun e w' => e = .returned (.agg #[.int .i64 kd, .string (s.extract a b), .int .i64 a, .int .i64 b, .int .i64 0]) ∧ Fr [] w w' := by
  have hx : (s.extract a b).size ≤ 281474976710656 := by rw [ByteArray.size_extract]; omega
  have hc := fun w => cloneS_any (s.extract a b) w hx
  clear hx
  have F0 : Fr [] w (w.alloc (.cells #[.int .i64 0, .string ⟨#[]⟩, .int .i64 0, .int .i64 0, .int .i64 0] 43)) := (Fr.refl _ _).alloc _
  have t0 := TB.new w (.int .i64 0) (.string ⟨#[]⟩) (.int .i64 0) (.int .i64 0) (.int .i64 0)
  go_enter Tryz.func51, Tryz.ntmps51
  go_wp2_with fail
  generalize hw1 : w.alloc _ = w1
  have F1 : Fr [] w w1 := by rw [← hw1]; exact F0
  have t1 : TB w1 w.heap.size (.int .i64 0) (.string ⟨#[]⟩) (.int .i64 0) (.int .i64 0) (.int .i64 0) := by rw [← hw1]; exact t0
  clear hw1 F0 t0
  have HG : Hid (w.heap.size ≤ w.heap.size) := Nat.le_refl _
  generalize hB : w.heap.size = B at t1 HG ⊢
  refine (hc _).mono ?_
  rintro e w2 ⟨rfl, hF⟩
  have t2 := t1.fr hF (by simp)
  have c0 := t2.c0
  have c1 := t2.c1
  have c2 := t2.c2
  have c3 := t2.c3
  have c4 := t2.c4
  have fz := t2.fz
  go_wp2
  have t3 := t2.set (.int .i64 kd) (.string (s.extract a b)) (.int .i64 a) (.int .i64 b) (.int .i64 0)
  have F3 := TB.fset (F1.trans hF) (B := B) (.inr (by omega)) (.int .i64 kd) (.string (s.extract a b)) (.int .i64 a) (.int .i64 b) (.int .i64 0)
  refine bodyPost_ret (v := .agg #[.int .i64 kd, .string (s.extract a b), .int .i64 a, .int .i64 b, .int .i64 0]) ?_ rfl ⟨rfl, F3⟩
  have d0 := t3.c0
  have d1 := t3.c1
  have d2 := t3.c2
  have d3 := t3.c3
  have d4 := t3.c4
  clear c0 c1 c2 c3 c4 fz t2 t3
  generalize ((((w2.setCell _ _).setCell _ _).setCell _ _).setCell _ _).setCell _ _ = w3 at *
  simp [results, Tryz.results51, go_sem, d0, d1, d2, d3, d4]
end Go.Proofs.YtekjfddcbcijdaaGreatDoor
