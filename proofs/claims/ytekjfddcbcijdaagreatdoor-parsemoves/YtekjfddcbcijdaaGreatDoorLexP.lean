/-
  One token, by the program; condition: the tables lie as the program's text lays them.
-/
import Derived.Test.YtekjfddcbcijdaaGreatDoorLexO
namespace Go.Proofs.YtekjfddcbcijdaaGreatDoor
open Go.RowKit
set_option maxRecDepth 100000

/-- What read leaves. -/
def rdOut (s : ByteArray) (k : Nat) : Ending := .returned (.tuple #[.agg (rdA k (rd s k)), .int .i64 (rdE (rd s k))])

set_option maxRecDepth 100000 in
set_option maxHeartbeats 400000 in
theorem read_name (s : ByteArray) (k : Nat) (w : World) (hs : s.size ≤ 2 ^ 40) (hk : k < s.size) (T : Tabs w) (h2 : kindN s[k].toNat = 2) :
    Calls Tryz.prog 19 #[.string s, .int .i64 k] w fun e w' => e = rdOut s k ∧ Fr [] w w' := by
  have hb := byte_lt s[k]
  have hK := fun w T => kindOf_any s[k].toNat w hb T
  rw [h2] at hK
  have hN := fun w T => readName_any s k w hs (Nat.le_of_lt hk) T
  have er : rd s k = .ok ⟨if wordL ((s.data.toList.drop k).take (runL (s.data.toList.drop k))) then 2 else 1, (s.data.toList.drop k).take (runL (s.data.toList.drop k)), k, k + runL (s.data.toList.drop k), 0⟩ := by
    unfold rd readL
    rw [drop_getD s k hk, if_pos h2]
  have hE : Hid (rdOut s k = .returned (.tuple #[.agg (tokA ⟨if wordL ((s.data.toList.drop k).take (runL (s.data.toList.drop k))) then 2 else 1, (s.data.toList.drop k).take (runL (s.data.toList.drop k)), k, k + runL (s.data.toList.drop k), 0⟩), .int .i64 0])) := by
    show _ = _
    unfold rdOut
    rw [er]
    rfl
  generalize (⟨if wordL ((s.data.toList.drop k).take (runL (s.data.toList.drop k))) then 2 else 1, (s.data.toList.drop k).take (runL (s.data.toList.drop k)), k, k + runL (s.data.toList.drop k), 0⟩ : Tok) = t at hN hE
  unfold tokA at hN hE
  generalize rdOut s k = R at *
  generalize (t.kind : Int) = x0 at hN hE
  generalize (⟨t.text.toArray⟩ : ByteArray) = X at hN hE
  generalize (t.frm : Int) = x2 at hN hE
  generalize (t.to : Int) = x3 at hN hE
  generalize (t.n : Int) = x4 at hN hE
  clear h2 er
  have F0 : Fr [] w (w.alloc (.cells #[.int .i64 0, .string ⟨#[]⟩, .int .i64 0, .int .i64 0, .int .i64 0] 43)) := (Fr.refl _ _).alloc _
  have t0 := TB.new w (.int .i64 0) (.string ⟨#[]⟩) (.int .i64 0) (.int .i64 0) (.int .i64 0)
  go_enter Tryz.func19, Tryz.ntmps19
  go_wp2_with fail
  generalize hw1 : w.alloc _ = w1
  have F1 : Fr [] w w1 := by rw [← hw1]; exact F0
  have t1 : TB w1 w.heap.size (.int .i64 0) (.string ⟨#[]⟩) (.int .i64 0) (.int .i64 0) (.int .i64 0) := by rw [← hw1]; exact t0
  clear hw1 F0 t0
  have T1 := T.fr F1 (by simp)
  generalize hB : w.heap.size = B at t1 ⊢
  refine (hK w1 T1).mono ?_
  rintro e w1 ⟨rfl, rfl⟩
  go_wp2_with fail
  refine (hN _ T1).mono ?_
  rintro e w2 ⟨rfl, hF⟩
  have t2 := t1.fr hF (by simp)
  have F2 := F1.trans hF
  have a0 := t2.c0
  have a1 := t2.c1
  have a2 := t2.c2
  have a3 := t2.c3
  have a4 := t2.c4
  have fz := t2.fz
  have HB : Hid (w.heap.size = B) := hB
  clear hB t1 F1 hF T1 hK
  go_wp2
  have t4 := t2.set (.int .i64 x0) (.string X) (.int .i64 x2) (.int .i64 x3) (.int .i64 x4)
  have F5 := TB.fset F2 (B := B) (.inr (by have := HB.out; omega)) (.int .i64 x0) (.string X) (.int .i64 x2) (.int .i64 x3) (.int .i64 x4)
  refine bodyPost_ret (v := .tuple #[.agg #[.int .i64 x0, .string X, .int .i64 x2, .int .i64 x3, .int .i64 x4], .int .i64 0]) ?_ rfl ⟨by rw [hE.out], F5⟩
  have d0 := t4.c0
  have d1 := t4.c1
  have d2 := t4.c2
  have d3 := t4.c3
  have d4 := t4.c4
  clear a0 a1 a2 a3 a4 fz t4 F5 t2
  generalize ((((w2.setCell _ _).setCell _ _).setCell _ _).setCell _ _).setCell _ _ = w4 at *
  simp [results, Tryz.results19, go_sem, d0, d1, d2, d3, d4]

set_option maxRecDepth 100000 in
set_option maxHeartbeats 400000 in
theorem read_digit (s : ByteArray) (k : Nat) (w : World) (hs : s.size ≤ 2 ^ 40) (hk : k < s.size) (T : Tabs w) (h3 : kindN s[k].toNat = 3) :
    Calls Tryz.prog 19 #[.string s, .int .i64 k] w fun e w' => e = rdOut s k ∧ Fr [] w w' := by
  have hb := byte_lt s[k]
  have hK := fun w T => kindOf_any s[k].toNat w hb T
  rw [h3] at hK
  have hrl := rnE_le s k (Nat.le_of_lt hk)
  have hR := fun w T => runEnd_any s k w (by unfold maxLen; omega) (Nat.le_of_lt hk) T
  have hN := fun w => nmR_any s k (rnE s k) w hs hrl.1 hrl.2
  have er : rd s k = nmR s k (rnE s k) := by
    unfold rd readL nmR rnE
    rw [drop_getD s k hk, if_neg (by omega), if_pos h3, extract_tok, num_mk, Nat.add_sub_cancel_left]
    rfl
  have hE : Hid (rdOut s k = .returned (.tuple #[.agg (rdA k (nmR s k (rnE s k))), .int .i64 (rdE (nmR s k (rnE s k)))])) := by
    show _ = _
    unfold rdOut
    rw [er]
  generalize rdOut s k = R at *
  generalize rdA k (nmR s k (rnE s k)) = A at hN hE
  generalize (rdE (nmR s k (rnE s k)) : Int) = c at hN hE
  generalize rnE s k = E at *
  clear h3 er hrl
  have F0 : Fr [] w (w.alloc (.cells #[.int .i64 0, .string ⟨#[]⟩, .int .i64 0, .int .i64 0, .int .i64 0] 43)) := (Fr.refl _ _).alloc _
  have t0 := TB.new w (.int .i64 0) (.string ⟨#[]⟩) (.int .i64 0) (.int .i64 0) (.int .i64 0)
  go_enter Tryz.func19, Tryz.ntmps19
  go_wp2_with fail
  generalize hw1 : w.alloc _ = w1
  have F1 : Fr [] w w1 := by rw [← hw1]; exact F0
  have t1 : TB w1 w.heap.size (.int .i64 0) (.string ⟨#[]⟩) (.int .i64 0) (.int .i64 0) (.int .i64 0) := by rw [← hw1]; exact t0
  clear hw1 F0 t0
  have T1 := T.fr F1 (by simp)
  generalize hB : w.heap.size = B at t1 ⊢
  refine (hK w1 T1).mono ?_
  rintro e w1 ⟨rfl, rfl⟩
  go_wp2_with fail
  refine (hR _ T1).mono ?_
  rintro e w1 ⟨rfl, rfl⟩
  go_wp2_with fail
  refine (hN _).mono ?_
  rintro e w2 ⟨x0, X, x2, x3, x4, hA, rfl, hF⟩
  have HA : Hid _ := hA
  clear hA hR
  have t2 := t1.fr hF (by simp)
  have F2 := F1.trans hF
  have a0 := t2.c0
  have a1 := t2.c1
  have a2 := t2.c2
  have a3 := t2.c3
  have a4 := t2.c4
  have fz := t2.fz
  have HB : Hid (w.heap.size = B) := hB
  clear hB t1 F1 hF T1 hK
  go_wp2
  have t4 := t2.set (.int .i64 x0) (.string X) (.int .i64 x2) (.int .i64 x3) (.int .i64 x4)
  have F5 := TB.fset F2 (B := B) (.inr (by have := HB.out; omega)) (.int .i64 x0) (.string X) (.int .i64 x2) (.int .i64 x3) (.int .i64 x4)
  refine bodyPost_ret (v := .tuple #[.agg #[.int .i64 x0, .string X, .int .i64 x2, .int .i64 x3, .int .i64 x4], .int .i64 c]) ?_ rfl ⟨by rw [hE.out, HA.out], F5⟩
  have d0 := t4.c0
  have d1 := t4.c1
  have d2 := t4.c2
  have d3 := t4.c3
  have d4 := t4.c4
  clear a0 a1 a2 a3 a4 fz t4 F5 t2
  generalize ((((w2.setCell _ _).setCell _ _).setCell _ _).setCell _ _).setCell _ _ = w4 at *
  simp [results, Tryz.results19, go_sem, d0, d1, d2, d3, d4]

set_option maxRecDepth 100000 in
set_option maxHeartbeats 400000 in
theorem read_quote (s : ByteArray) (k : Nat) (w : World) (hs : s.size ≤ 2 ^ 40) (hk : k < s.size) (T : Tabs w) (h4 : kindN s[k].toNat = 4) :
    Calls Tryz.prog 19 #[.string s, .int .i64 k] w fun e w' => e = rdOut s k ∧ Fr [] w w' := by
  have hb := byte_lt s[k]
  have hK := fun w T => kindOf_any s[k].toNat w hb T
  rw [h4] at hK
  have hN := fun w => nmR_any s k (min (k + 3) s.size) w hs (by omega) (by omega)
  have hl : (s.data.toList.drop k).length = s.size - k := by rw [List.length_drop, ← Lib.size_eq]
  have e3 : (s.data.toList.drop k).take 3 = (s.data.toList.drop k).take (min (k + 3) s.size - k) := by
    by_cases h : k + 3 ≤ s.size
    · rw [show min (k + 3) s.size - k = 3 from by omega]
    · rw [show min (k + 3) s.size - k = s.size - k from by omega, List.take_of_length_le (by omega), List.take_of_length_le (by omega)]
  have er : rd s k = nmR s k (min (k + 3) s.size) := by
    unfold rd readL nmR
    rw [drop_getD s k hk, if_neg (by omega), if_neg (by omega), if_pos h4, Lib.extract_eq, num_mk, e3, hl]
    rw [show k + min 3 (s.size - k) = min (k + 3) s.size from by omega]
    rfl
  have hE : Hid (rdOut s k = .returned (.tuple #[.agg (rdA k (nmR s k (min (k + 3) s.size))), .int .i64 (rdE (nmR s k (min (k + 3) s.size)))])) := by
    show _ = _
    unfold rdOut
    rw [er]
  generalize rdOut s k = R at *
  generalize rdA k (nmR s k (min (k + 3) s.size)) = A at hN hE
  generalize (rdE (nmR s k (min (k + 3) s.size)) : Int) = c at hN hE
  have hN' : ∀ m : Int, m = ((min (k + 3) s.size : Nat) : Int) → ∀ w, Calls Tryz.prog 48 #[.string s, .int .i64 k, .int .i64 m] w fun e w' => ∃ x0 X x2 x3 x4, A = #[.int .i64 x0, .string X, .int .i64 x2, .int .i64 x3, .int .i64 x4] ∧ e = .returned (.tuple #[.agg #[.int .i64 x0, .string X, .int .i64 x2, .int .i64 x3, .int .i64 x4], .int .i64 c]) ∧ Fr [] w w' := fun m hm w => by rw [hm]; exact hN w
  clear h4 er e3 hl hN
  have F0 : Fr [] w (w.alloc (.cells #[.int .i64 0, .string ⟨#[]⟩, .int .i64 0, .int .i64 0, .int .i64 0] 43)) := (Fr.refl _ _).alloc _
  have t0 := TB.new w (.int .i64 0) (.string ⟨#[]⟩) (.int .i64 0) (.int .i64 0) (.int .i64 0)
  go_enter Tryz.func19, Tryz.ntmps19
  go_wp2_with fail
  generalize hw1 : w.alloc _ = w1
  have F1 : Fr [] w w1 := by rw [← hw1]; exact F0
  have t1 : TB w1 w.heap.size (.int .i64 0) (.string ⟨#[]⟩) (.int .i64 0) (.int .i64 0) (.int .i64 0) := by rw [← hw1]; exact t0
  clear hw1 F0 t0
  have T1 := T.fr F1 (by simp)
  generalize hB : w.heap.size = B at t1 ⊢
  refine (hK w1 T1).mono ?_
  rintro e w1 ⟨rfl, rfl⟩
  go_wp2_with fail
  all_goals
    refine (hN' _ (by omega) _).mono ?_
    rintro e w2 ⟨x0, X, x2, x3, x4, hA, rfl, hF⟩
    have HA : Hid _ := hA
    clear hA hN'
    have t2 := t1.fr hF (by simp)
    have F2 := F1.trans hF
    have a0 := t2.c0
    have a1 := t2.c1
    have a2 := t2.c2
    have a3 := t2.c3
    have a4 := t2.c4
    have fz := t2.fz
    have HB : Hid (w.heap.size = B) := hB
    clear hB t1 F1 hF T1 hK
    go_wp2
    have t4 := t2.set (.int .i64 x0) (.string X) (.int .i64 x2) (.int .i64 x3) (.int .i64 x4)
    have F5 := TB.fset F2 (B := B) (.inr (by have := HB.out; omega)) (.int .i64 x0) (.string X) (.int .i64 x2) (.int .i64 x3) (.int .i64 x4)
    refine bodyPost_ret (v := .tuple #[.agg #[.int .i64 x0, .string X, .int .i64 x2, .int .i64 x3, .int .i64 x4], .int .i64 c]) ?_ rfl ⟨by rw [hE.out, HA.out], F5⟩
    have d0 := t4.c0
    have d1 := t4.c1
    have d2 := t4.c2
    have d3 := t4.c3
    have d4 := t4.c4
    clear a0 a1 a2 a3 a4 fz t4 F5 t2
    generalize ((((w2.setCell _ _).setCell _ _).setCell _ _).setCell _ _).setCell _ _ = w4 at *
    simp [results, Tryz.results19, go_sem, d0, d1, d2, d3, d4]

set_option maxRecDepth 100000 in
set_option maxHeartbeats 400000 in
theorem read_bad (s : ByteArray) (k : Nat) (w : World) (hs : s.size ≤ 2 ^ 40) (hk : k < s.size) (T : Tabs w) (h2 : ¬ kindN s[k].toNat = 2) (h3 : ¬ kindN s[k].toNat = 3) (h4 : ¬ kindN s[k].toNat = 4) (hz : signL (s.data.toList.drop k) = 0) :
    Calls Tryz.prog 19 #[.string s, .int .i64 k] w fun e w' => e = rdOut s k ∧ Fr [] w w' := by
  have hb := byte_lt s[k]
  have hK := fun w T => kindOf_any s[k].toNat w hb T
  have h2' : ((kindN s[k].toNat : Int) == 2) = false := beq_int_false (by omega)
  have h3' : ((kindN s[k].toNat : Int) == 3) = false := beq_int_false (by omega)
  have h4' : ((kindN s[k].toNat : Int) == 4) = false := beq_int_false (by omega)
  have hx : (s.extract k s.size).size ≤ maxLen := by rw [ByteArray.size_extract]; unfold maxLen; omega
  have hS := fun w T => signLength_any (s.extract k s.size) w hx T
  have es : sgn (s.extract k s.size) = signL (s.data.toList.drop k) := by unfold sgn; rw [extract_rest]
  rw [es] at hS
  clear hx es
  have er : rd s k = .error 40 := by
    unfold rd readL
    rw [drop_getD s k hk, if_neg h2, if_neg h3, if_neg h4, if_pos hz]
  have hE : Hid (rdOut s k = .returned (.tuple #[.agg #[.int .i64 0, .string ⟨#[]⟩, .int .i64 k, .int .i64 0, .int .i64 0], .int .i64 40])) := by
    show _ = _
    unfold rdOut
    rw [er]
    rfl
  rw [hz] at hS
  generalize rdOut s k = R at *
  generalize kindN s[k].toNat = K at *
  clear h2 h3 h4 er hz
  have F0 : Fr [] w (w.alloc (.cells #[.int .i64 0, .string ⟨#[]⟩, .int .i64 0, .int .i64 0, .int .i64 0] 43)) := (Fr.refl _ _).alloc _
  have t0 := TB.new w (.int .i64 0) (.string ⟨#[]⟩) (.int .i64 0) (.int .i64 0) (.int .i64 0)
  go_enter Tryz.func19, Tryz.ntmps19
  go_wp2_with fail
  generalize hw1 : w.alloc _ = w1
  have F1 : Fr [] w w1 := by rw [← hw1]; exact F0
  have t1 : TB w1 w.heap.size (.int .i64 0) (.string ⟨#[]⟩) (.int .i64 0) (.int .i64 0) (.int .i64 0) := by rw [← hw1]; exact t0
  clear hw1 F0 t0
  have T1 := T.fr F1 (by simp)
  generalize hB : w.heap.size = B at t1 ⊢
  refine (hK w1 T1).mono ?_
  rintro e w1 ⟨rfl, rfl⟩
  go_wp2_with fail
  refine (hS _ T1).mono ?_
  rintro e w2 ⟨rfl, nn, rfl⟩
  have hF : Fr [] w1 (w1.drewN nn) := (Fr.refl _ _).drewN nn
  have t2 := t1.fr hF (by simp)
  have F2 := F1.trans hF
  have a0 := t2.c0
  have a1 := t2.c1
  have a2 := t2.c2
  have a3 := t2.c3
  have a4 := t2.c4
  have fz := t2.fz
  have HB : Hid (w.heap.size = B) := hB
  clear hB t1 F1 hF T1 hK
  go_wp2
  have t4 := t2.set (.int .i64 0) (.string ⟨#[]⟩) (.int .i64 k) (.int .i64 0) (.int .i64 0)
  have F5 := TB.fset F2 (B := B) (.inr (by have := HB.out; omega)) (.int .i64 0) (.string ⟨#[]⟩) (.int .i64 k) (.int .i64 0) (.int .i64 0)
  refine bodyPost_ret (v := .tuple #[.agg #[.int .i64 0, .string ⟨#[]⟩, .int .i64 k, .int .i64 0, .int .i64 0], .int .i64 40]) ?_ rfl ⟨by rw [hE.out], F5⟩
  have d0 := t4.c0
  have d1 := t4.c1
  have d2 := t4.c2
  have d3 := t4.c3
  have d4 := t4.c4
  clear a0 a1 a2 a3 a4 fz t4 F5 t2
  generalize (((((w1.drewN nn).setCell _ _).setCell _ _).setCell _ _).setCell _ _).setCell _ _ = w4 at *
  simp [results, Tryz.results19, go_sem, d0, d1, d2, d3, d4]

set_option maxRecDepth 100000 in
set_option maxHeartbeats 400000 in
theorem read_sign (s : ByteArray) (k : Nat) (w : World) (hs : s.size ≤ 2 ^ 40) (hk : k < s.size) (T : Tabs w) (h2 : ¬ kindN s[k].toNat = 2) (h3 : ¬ kindN s[k].toNat = 3) (h4 : ¬ kindN s[k].toNat = 4) (hz : ¬ signL (s.data.toList.drop k) = 0) (hle : k + signL (s.data.toList.drop k) ≤ s.size) :
    Calls Tryz.prog 19 #[.string s, .int .i64 k] w fun e w' => e = rdOut s k ∧ Fr [] w w' := by
  have hb := byte_lt s[k]
  have hK := fun w T => kindOf_any s[k].toNat w hb T
  have h2' : ((kindN s[k].toNat : Int) == 2) = false := beq_int_false (by omega)
  have h3' : ((kindN s[k].toNat : Int) == 3) = false := beq_int_false (by omega)
  have h4' : ((kindN s[k].toNat : Int) == 4) = false := beq_int_false (by omega)
  have hx : (s.extract k s.size).size ≤ maxLen := by rw [ByteArray.size_extract]; unfold maxLen; omega
  have hS := fun w T => signLength_any (s.extract k s.size) w hx T
  have es : sgn (s.extract k s.size) = signL (s.data.toList.drop k) := by unfold sgn; rw [extract_rest]
  rw [es] at hS
  clear hx es
  have hM := fun w => made_any 3 k (k + signL (s.data.toList.drop k)) s w hs (by omega) hle
  have er : rd s k = .ok ⟨3, (s.data.toList.drop k).take (signL (s.data.toList.drop k)), k, k + signL (s.data.toList.drop k), 0⟩ := by
    unfold rd readL
    rw [drop_getD s k hk, if_neg h2, if_neg h3, if_neg h4, if_neg hz]
  have hE : Hid (rdOut s k = .returned (.tuple #[.agg #[.int .i64 3, .string (s.extract k (k + signL (s.data.toList.drop k))), .int .i64 k, .int .i64 (k + signL (s.data.toList.drop k) : Nat), .int .i64 0], .int .i64 0])) := by
    show _ = _
    unfold rdOut
    rw [er, extract_tok]
    rfl
  have hz' : ((signL (s.data.toList.drop k) : Int) == 0) = false := beq_int_false (by omega)
  generalize rdOut s k = R at *
  generalize kindN s[k].toNat = K at *
  generalize hX : s.extract k (k + signL (s.data.toList.drop k)) = X at *
  generalize signL (s.data.toList.drop k) = L at *
  have hM' : ∀ w, Calls Tryz.prog 51 #[.int .i64 3, .string s, .int .i64 k, .int .i64 (k + L)] w fun e w' => e = .returned (.agg #[.int .i64 3, .string X, .int .i64 k, .int .i64 (k + L), .int .i64 0]) ∧ Fr [] w w' := fun w => by simpa using hM w
  have hE' : Hid (R = .returned (.tuple #[.agg #[.int .i64 3, .string X, .int .i64 k, .int .i64 (k + L), .int .i64 0], .int .i64 0])) := by
    show _ = _
    simpa using hE.out
  clear h2 h3 h4 er hz hM hE hX
  have F0 : Fr [] w (w.alloc (.cells #[.int .i64 0, .string ⟨#[]⟩, .int .i64 0, .int .i64 0, .int .i64 0] 43)) := (Fr.refl _ _).alloc _
  have t0 := TB.new w (.int .i64 0) (.string ⟨#[]⟩) (.int .i64 0) (.int .i64 0) (.int .i64 0)
  go_enter Tryz.func19, Tryz.ntmps19
  go_wp2_with fail
  generalize hw1 : w.alloc _ = w1
  have F1 : Fr [] w w1 := by rw [← hw1]; exact F0
  have t1 : TB w1 w.heap.size (.int .i64 0) (.string ⟨#[]⟩) (.int .i64 0) (.int .i64 0) (.int .i64 0) := by rw [← hw1]; exact t0
  clear hw1 F0 t0
  have T1 := T.fr F1 (by simp)
  generalize hB : w.heap.size = B at t1 ⊢
  refine (hK w1 T1).mono ?_
  rintro e w1 ⟨rfl, rfl⟩
  go_wp2_with fail
  refine (hS _ T1).mono ?_
  rintro e w1' ⟨rfl, nn, rfl⟩
  go_wp2_with fail
  refine (hM' _).mono ?_
  rintro e w2 ⟨rfl, hF'⟩
  have hF : Fr [] w1 w2 := ((Fr.refl _ _).drewN nn).trans hF'
  have t2 := t1.fr hF (by simp)
  have F2 := F1.trans hF
  have a0 := t2.c0
  have a1 := t2.c1
  have a2 := t2.c2
  have a3 := t2.c3
  have a4 := t2.c4
  have fz := t2.fz
  have HB : Hid (w.heap.size = B) := hB
  clear hB t1 F1 hF T1 hK
  go_wp2
  have t4 := t2.set (.int .i64 3) (.string X) (.int .i64 k) (.int .i64 (k + L)) (.int .i64 0)
  have F5 := TB.fset F2 (B := B) (.inr (by have := HB.out; omega)) (.int .i64 3) (.string X) (.int .i64 k) (.int .i64 (k + L)) (.int .i64 0)
  refine bodyPost_ret (v := .tuple #[.agg #[.int .i64 3, .string X, .int .i64 k, .int .i64 (k + L), .int .i64 0], .int .i64 0]) ?_ rfl ⟨by rw [hE'.out], F5⟩
  have d0 := t4.c0
  have d1 := t4.c1
  have d2 := t4.c2
  have d3 := t4.c3
  have d4 := t4.c4
  clear a0 a1 a2 a3 a4 fz t4 F5 t2
  generalize ((((w2.setCell _ _).setCell _ _).setCell _ _).setCell _ _).setCell _ _ = w4 at *
  simp [results, Tryz.results19, go_sem, d0, d1, d2, d3, d4]

theorem signL_le (l : List UInt8) : signL l ≤ l.length := by
  unfold signL
  split
  · rename_i g hg
    have := List.find?_some hg
    rw [List.isPrefixOf_iff_prefix] at this
    exact this.length_le
  · omega

theorem read_any (s : ByteArray) (k : Nat) (w : World) (hs : s.size ≤ 2 ^ 40) (hk : k < s.size) (T : Tabs w) :
    Calls Tryz.prog 19 #[.string s, .int .i64 k] w fun e w' => e = rdOut s k ∧ Fr [] w w' := by
  by_cases h2 : kindN s[k].toNat = 2
  · exact read_name s k w hs hk T h2
  · by_cases h3 : kindN s[k].toNat = 3
    · exact read_digit s k w hs hk T h3
    · by_cases h4 : kindN s[k].toNat = 4
      · exact read_quote s k w hs hk T h4
      · by_cases hz : signL (s.data.toList.drop k) = 0
        · exact read_bad s k w hs hk T h2 h3 h4 hz
        · have := signL_le (s.data.toList.drop k)
          rw [List.length_drop, ← Lib.size_eq] at this
          exact read_sign s k w hs hk T h2 h3 h4 hz (by omega)
end Go.Proofs.YtekjfddcbcijdaaGreatDoor
