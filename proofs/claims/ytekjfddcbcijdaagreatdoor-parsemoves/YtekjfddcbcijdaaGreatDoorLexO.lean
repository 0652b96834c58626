/-
  One token, by the program; condition: the tables lie as the program's text lays them.
-/
import Derived.Test.YtekjfddcbcijdaaGreatDoorLexN
namespace Go.Proofs.YtekjfddcbcijdaaGreatDoor
open Go.RowKit
set_option maxRecDepth 100000

set_option maxRecDepth 100000 in
set_option maxHeartbeats 400000 in
/-- A number, or an error. -/
theorem readNumber_none (s : ByteArray) (a b : Nat) (w : World) (hs : s.size ≤ 2 ^ 40) (hab : a ≤ b) (hb : b ≤ s.size) (hn : num (s.extract a b) = none) :
    Calls Tryz.prog 48 #[.string s, .int .i64 a, .int .i64 b] w fun e w' => e = .returned (.tuple #[.agg #[.int .i64 0, .string ⟨#[]⟩, .int .i64 a, .int .i64 0, .int .i64 0], .int .i64 41]) ∧ Fr [] w w' := by
  have hN := fun w => number_any (s.extract a b) w (by rw [ByteArray.size_extract]; unfold maxLen; omega)
  rw [hn, nOut] at hN
  simp only [Option.getD_none, Option.isSome_none] at hN
  go_enter Tryz.func48, Tryz.ntmps48
  go_wp2_with (go_at_call 69; refine (hN _).mono ?_; rintro e w' ⟨rfl, rfl⟩)
  exact bodyPost_ret (v := .tuple #[.agg #[.int .i64 0, .string ⟨#[]⟩, .int .i64 a, .int .i64 0, .int .i64 0], .int .i64 41]) (by simp [results, Tryz.results48, go_sem]) rfl ⟨rfl, (Fr.refl _ _).alloc _⟩

set_option maxRecDepth 100000 in
set_option maxHeartbeats 400000 in
theorem readNumber_some (s : ByteArray) (a b : Nat) (w : World) (hs : s.size ≤ 2 ^ 40) (hab : a ≤ b) (hb : b ≤ s.size) (n : Nat) (hn : num (s.extract a b) = some n) :
    Calls Tryz.prog 48 #[.string s, .int .i64 a, .int .i64 b] w fun e w' => e = .returned (.tuple #[.agg #[.int .i64 4, .string (s.extract a b), .int .i64 a, .int .i64 b, .int .i64 n], .int .i64 0]) ∧ Fr [] w w' := by
  have hN := fun w => number_any (s.extract a b) w (by rw [ByteArray.size_extract]; unfold maxLen; omega)
  rw [hn, nOut] at hN
  simp only [Option.getD_some, Option.isSome_some] at hN
  have hM := fun w => made_any 4 a b s w hs hab hb
  have F0 : Fr [] w (w.alloc (.cells #[.int .i64 0, .string ⟨#[]⟩, .int .i64 0, .int .i64 0, .int .i64 0] 43)) := (Fr.refl _ _).alloc _
  have t0 := TB.new w (.int .i64 0) (.string ⟨#[]⟩) (.int .i64 0) (.int .i64 0) (.int .i64 0)
  clear hn
  go_enter Tryz.func48, Tryz.ntmps48
  go_wp2_with fail
  generalize hw1 : w.alloc _ = w1
  have F1 : Fr [] w w1 := by rw [← hw1]; exact F0
  have t1 : TB w1 w.heap.size (.int .i64 0) (.string ⟨#[]⟩) (.int .i64 0) (.int .i64 0) (.int .i64 0) := by rw [← hw1]; exact t0
  clear hw1 F0 t0
  generalize hB : w.heap.size = B at t1 ⊢
  refine (hN w1).mono ?_
  rintro e w1 ⟨rfl, rfl⟩
  go_wp2_with fail
  refine (hM _).mono ?_
  rintro e w2 ⟨rfl, hF⟩
  have t2 := t1.fr hF (by simp)
  have hCB := t2.lt
  have F2 := F1.trans hF
  have a0 := t2.c0
  have a1 := t2.c1
  have a2 := t2.c2
  have a3 := t2.c3
  have a4 := t2.c4
  have fz := t2.fz
  have HB : Hid (w.heap.size = B) := hB
  clear hB t1 F1 hF
  go_wp2
  have t4 := (t2.set (.int .i64 4) (.string (s.extract a b)) (.int .i64 a) (.int .i64 b) (.int .i64 n)).fr (Fr.alloc (S := []) (Fr.refl _ _) (.cells #[.int .i64 4, .string (s.extract a b), .int .i64 a, .int .i64 b, .int .i64 n] 43)) (by simp)
  have F5 := (TB.fset F2 (B := B) (.inr (by have := HB.out; omega)) (.int .i64 4) (.string (s.extract a b)) (.int .i64 a) (.int .i64 b) (.int .i64 n)).alloc (.cells #[.int .i64 4, .string (s.extract a b), .int .i64 a, .int .i64 b, .int .i64 n] 43)
  refine bodyPost_ret (v := .tuple #[.agg #[.int .i64 4, .string (s.extract a b), .int .i64 a, .int .i64 b, .int .i64 n], .int .i64 0]) ?_ rfl ⟨rfl, F5⟩
  have d0 := t4.c0
  have d1 := t4.c1
  have d2 := t4.c2
  have d3 := t4.c3
  have d4 := t4.c4
  clear a0 a1 a2 a3 a4 fz t4 F5 t2 hN hM
  generalize (((((w2.setCell _ _).setCell _ _).setCell _ _).setCell _ _).setCell _ _).alloc _ = w4 at *
  simp [results, Tryz.results48, go_sem, d0, d1, d2, d3, d4]

/-- What read hands back. -/
def rdA (p : Nat) : Except Nat Tok → Array Value
  | .ok t => tokA t
  | .error _ => #[.int .i64 0, .string ⟨#[]⟩, .int .i64 p, .int .i64 0, .int .i64 0]
def rdE : Except Nat Tok → Nat
  | .ok _ => 0
  | .error e => e
def rd (s : ByteArray) (k : Nat) : Except Nat Tok := readL k (s.data.toList.drop k)

theorem drop_getD (s : ByteArray) (k : Nat) (h : k < s.size) : (s.data.toList.drop k).getD 0 0 = s[k] := by rw [drop_cons s k h]; rfl

/-- A number at a, up to b. -/
def nmR (s : ByteArray) (a b : Nat) : Except Nat Tok := match num (s.extract a b) with | none => .error 41 | some n => .ok ⟨4, (s.data.toList.drop a).take (b - a), a, b, n⟩
theorem nmR_any (s : ByteArray) (a b : Nat) (w : World) (hs : s.size ≤ 2 ^ 40) (hab : a ≤ b) (hb : b ≤ s.size) :
    Calls Tryz.prog 48 #[.string s, .int .i64 a, .int .i64 b] w fun e w' => ∃ x0 X x2 x3 x4, rdA a (nmR s a b) = #[.int .i64 x0, .string X, .int .i64 x2, .int .i64 x3, .int .i64 x4] ∧ e = .returned (.tuple #[.agg #[.int .i64 x0, .string X, .int .i64 x2, .int .i64 x3, .int .i64 x4], .int .i64 (rdE (nmR s a b))]) ∧ Fr [] w w' := by
  cases hn : num (s.extract a b) with
  | none =>
    have e1 : nmR s a b = .error 41 := by unfold nmR; rw [hn]
    refine (readNumber_none s a b w hs hab hb hn).mono ?_
    rintro e w' ⟨rfl, hF⟩
    rw [e1]
    exact ⟨_, _, _, _, _, rfl, rfl, hF⟩
  | some n =>
    have e1 : nmR s a b = .ok ⟨4, (s.data.toList.drop a).take (b - a), a, b, n⟩ := by unfold nmR; rw [hn]
    refine (readNumber_some s a b w hs hab hb n hn).mono ?_
    rintro e w' ⟨rfl, hF⟩
    rw [e1]
    refine ⟨_, _, _, _, _, rfl, ?_, hF⟩
    rw [Lib.extract_eq]
    rfl
end Go.Proofs.YtekjfddcbcijdaaGreatDoor
