/-
  One token, by the program; condition: the tables lie as the program's text lays them.
-/
import Derived.Test.YtekjfddcbcijdaaGreatDoorLexM
namespace Go.Proofs.YtekjfddcbcijdaaGreatDoor
open Go.RowKit
set_option maxRecDepth 100000

def tokA (t : Tok) : Array Value := #[.int .i64 t.kind, .string ⟨t.text.toArray⟩, .int .i64 t.frm, .int .i64 t.to, .int .i64 t.n]

set_option maxRecDepth 100000 in
set_option maxHeartbeats 2000000 in
theorem readName_raw (s : ByteArray) (k : Nat) (w : World) (hs : s.size ≤ 2 ^ 40) (hk : k ≤ s.size) (T : Tabs w) (kd : Nat) (hkd : kd = if wrd (s.extract k (rnE s k)) then 2 else 1) :
    Calls Tryz.prog 47 #[.string s, .int .i64 k] w fun e w' => e = .returned (.agg #[.int .i64 kd, .string (s.extract k (rnE s k)), .int .i64 k, .int .i64 (rnE s k), .int .i64 0]) ∧ Fr [] w w' := by
  have hrl := rnE_le s k hk
  have hR := fun w T => runEnd_any s k w (by unfold maxLen; omega) hk T
  have hM := fun w => made_any 1 k (rnE s k) s w hs hrl.1 hrl.2
  have hW := fun w => isWord_any (s.extract k (rnE s k)) w
  generalize wrd (s.extract k (rnE s k)) = wd at *
  generalize s.extract k (rnE s k) = X at *
  generalize rnE s k = E at *
  have F0 : Fr [] w (w.alloc (.cells #[.int .i64 0, .string ⟨#[]⟩, .int .i64 0, .int .i64 0, .int .i64 0] 43)) := (Fr.refl _ _).alloc _
  have t0 := TB.new w (.int .i64 0) (.string ⟨#[]⟩) (.int .i64 0) (.int .i64 0) (.int .i64 0)
  go_enter Tryz.func47, Tryz.ntmps47
  go_wp2_with fail
  generalize hw1 : w.alloc _ = w1
  have F1 : Fr [] w w1 := by rw [← hw1]; exact F0
  have t1 : TB w1 w.heap.size (.int .i64 0) (.string ⟨#[]⟩) (.int .i64 0) (.int .i64 0) (.int .i64 0) := by rw [← hw1]; exact t0
  clear hw1 F0 t0
  have T1 := T.fr F1 (by simp)
  generalize hB : w.heap.size = B at t1 ⊢
  refine (hR w1 T1).mono ?_
  rintro e w1' ⟨rfl, e1⟩
  subst e1
  go_wp2_with fail
  refine (hM _).mono ?_
  rintro e w2 ⟨rfl, hF⟩
  have t2 := t1.fr hF (by simp)
  go_wp2_with fail
  have F3 : Fr [] w2 (w2.alloc (.cells #[.int .i64 1, .string X, .int .i64 k, .int .i64 E, .int .i64 0] 43)) := (Fr.refl _ _).alloc _
  have u3 := TB.new w2 (.int .i64 1) (.string X) (.int .i64 k) (.int .i64 E) (.int .i64 0)
  have t3 := t2.fr F3 (by simp)
  have hCB : B < w2.heap.size := t2.lt
  have hsz := (F1.trans hF).size
  have F4 := (F1.trans hF).trans F3
  generalize w2.alloc (.cells #[.int .i64 1, .string X, .int .i64 k, .int .i64 E, .int .i64 0] 43) = w3 at *
  generalize w2.heap.size = C at *
  refine (hW w3).mono ?_
  rintro e w3 ⟨rfl, rfl⟩
  have hne : C ≠ B := by omega
  have hne' : B ≠ C := by omega
  clear hCB hrl
  have HH : Hid (w.heap.size = B ∧ w.heap.size ≤ C) := ⟨hB, hsz⟩
  clear hB hsz t2 t1 T1 F1
  have a0 := t3.c0
  have a1 := t3.c1
  have a2 := t3.c2
  have a3 := t3.c3
  have a4 := t3.c4
  have b0 := u3.c0
  have b1 := u3.c1
  have b2 := u3.c2
  have b3 := u3.c3
  have b4 := u3.c4
  have fz := t3.fz
  have gz := u3.fz
  cases wd
  · simp only [Bool.false_eq_true, if_false] at hkd
    subst hkd
    go_wp2
    have t4 := t3.set (.int .i64 1) (.string X) (.int .i64 k) (.int .i64 E) (.int .i64 0)
    have F5 := TB.fset F4 (B := B) (.inr (by have := HH.out; omega)) (.int .i64 1) (.string X) (.int .i64 k) (.int .i64 E) (.int .i64 0)
    refine bodyPost_ret (v := .agg #[.int .i64 1, .string X, .int .i64 k, .int .i64 E, .int .i64 0]) ?_ rfl ⟨rfl, F5⟩
    have d0 := t4.c0
    have d1 := t4.c1
    have d2 := t4.c2
    have d3 := t4.c3
    have d4 := t4.c4
    clear a0 a1 a2 a3 a4 fz b0 b1 b2 b3 b4 gz t3 u3 t4 F5
    generalize ((((w3.setCell _ _).setCell _ _).setCell _ _).setCell _ _).setCell _ _ = w4 at *
    simp [results, Tryz.results47, go_sem, d0, d1, d2, d3, d4]
  · simp only [if_true] at hkd
    subst hkd
    go_wp2
    have F4' := F4.setCell (p := ⟨C, 0, none⟩) (.inr (by have := HH.out; simp; omega)) (.int .i64 2)
    have t3' := t3.fr (Fr.setCell (S := [C]) (p := ⟨C, 0, none⟩) (Fr.refl _ w3) (.inl (by simp)) (.int .i64 2)) (by simpa using hne')
    have t4 := t3'.set (.int .i64 2) (.string X) (.int .i64 k) (.int .i64 E) (.int .i64 0)
    have F5 := TB.fset F4' (B := B) (.inr (by have := HH.out; omega)) (.int .i64 2) (.string X) (.int .i64 k) (.int .i64 E) (.int .i64 0)
    refine bodyPost_ret (v := .agg #[.int .i64 2, .string X, .int .i64 k, .int .i64 E, .int .i64 0]) ?_ rfl ⟨rfl, F5⟩
    have d0 := t4.c0
    have d1 := t4.c1
    have d2 := t4.c2
    have d3 := t4.c3
    have d4 := t4.c4
    clear a0 a1 a2 a3 a4 fz b0 b1 b2 b3 b4 gz t3 u3 t4 F5 t3' F4'
    generalize (((((w3.setCell _ _).setCell _ _).setCell _ _).setCell _ _).setCell _ _).setCell _ _ = w4 at *
    simp [results, Tryz.results47, go_sem, d0, d1, d2, d3, d4]

theorem extract_tok (s : ByteArray) (k m : Nat) : s.extract k (k + m) = ⟨((s.data.toList.drop k).take m).toArray⟩ := by
  rw [Lib.extract_eq]
  simp
theorem wrd_mk (l : List UInt8) : wrd ⟨l.toArray⟩ = wordL l := by simp [wrd]
theorem num_mk (l : List UInt8) : num ⟨l.toArray⟩ = numL l := by simp [num]

theorem readName_any (s : ByteArray) (k : Nat) (w : World) (hs : s.size ≤ 2 ^ 40) (hk : k ≤ s.size) (T : Tabs w) :
    Calls Tryz.prog 47 #[.string s, .int .i64 k] w fun e w' => e = .returned (.agg (tokA ⟨if wordL ((s.data.toList.drop k).take (runL (s.data.toList.drop k))) then 2 else 1, (s.data.toList.drop k).take (runL (s.data.toList.drop k)), k, k + runL (s.data.toList.drop k), 0⟩)) ∧ Fr [] w w' := by
  refine (readName_raw s k w hs hk T _ rfl).mono ?_
  rintro e w' ⟨rfl, hF⟩
  refine ⟨?_, hF⟩
  unfold rnE
  rw [extract_tok, wrd_mk]
  rfl

end Go.Proofs.YtekjfddcbcijdaaGreatDoor
