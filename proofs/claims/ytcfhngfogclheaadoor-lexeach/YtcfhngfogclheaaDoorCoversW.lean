/-
  Tokens stand in order and are the bytes at which they stand, with nothing but blanks and notes between: the law, walked; condition: the tables lie as the program's text lays them.
-/
import Derived.Test.YtcfhngfogclheaaDoorBlanksW
namespace Go.Proofs.YtcfhngfogclheaaDoor
open Go.RowKit

/-- What stands between is skipped whole. -/
theorem skip_take (b : Bool) (l : List UInt8) : skipL b (l.take (skipL b l)) = skipL b l := by
  induction l generalizing b with
  | nil => simp [skipL]
  | cons c l ih =>
    cases b
    · by_cases h1 : isBl c.toNat = true
      · have e : skipL false (c :: l) = skipL false l + 1 := by simp [skipL, h1]
        rw [e, List.take_succ_cons]
        simp [skipL, h1, ih]
      · by_cases h2 : c.toNat = 47 ∧ l.head? = some 47
        · have e : skipL false (c :: l) = skipL true l + 1 := by simp only [skipL]; rw [if_neg h1, if_pos h2]
          rw [e, List.take_succ_cons]
          have hh : (l.take (skipL true l)).head? = some 47 := by
            cases l with
            | nil => simp at h2
            | cons x r =>
              have hx : x = 47 := by simpa using h2.2
              subst hx
              have : skipL true ((47 : UInt8) :: r) = skipL true r + 1 := by simp [skipL]
              rw [this]
              rfl
          have h2' : c.toNat = 47 ∧ (l.take (skipL true l)).head? = some 47 := ⟨h2.1, hh⟩
          simp only [skipL]
          rw [if_neg (by simpa using h1), if_pos h2', ih]
        · have e : skipL false (c :: l) = 0 := by simp only [skipL]; rw [if_neg h1, if_neg h2]
          rw [e]
          simp [skipL]
    · by_cases h1 : c.toNat = 10
      · have e : skipL true (c :: l) = skipL false l + 1 := by simp [skipL, h1]
        rw [e, List.take_succ_cons]
        simp [skipL, h1, ih]
      · have e : skipL true (c :: l) = skipL true l + 1 := by simp [skipL, h1]
        rw [e, List.take_succ_cons]
        simp [skipL, h1, ih]
theorem gap_sc {s : ByteArray} {k : Nat} (hk : k ≤ s.size) : sc (s.extract k (skE s k)) 0 = ([], none) := by
  have hle := skE_le s k hk
  refine sc_end (Nat.zero_le _) ?_
  have hsz : (s.extract k (skE s k)).size = skE s k - k := by rw [ByteArray.size_extract]; omega
  have hd : (s.extract k (skE s k)).data.toList = (s.data.toList.drop k).take (skipL false (s.data.toList.drop k)) := by
    rw [Lib.extract_data]
    unfold skE
    rw [Nat.add_sub_cancel_left]
  rw [hsz]
  show _ ≤ 0 + skipL false (List.drop 0 (s.extract k (skE s k)).data.toList)
  rw [hd, List.drop_zero, skip_take]
  unfold skE
  omega

/-- Tokens that follow one another from k on. -/
def Chain (s : ByteArray) : Nat → List Tok → Prop
  | k, [] => k ≤ s.size ∧ skE s k = s.size
  | k, t :: r => k ≤ s.size ∧ t.frm = skE s k ∧ t.frm ≤ t.to ∧ t.to ≤ s.size ∧ (⟨t.text.toArray⟩ : ByteArray) = s.extract t.frm t.to ∧ t.kind ≠ 0 ∧ Chain s t.to r
theorem rd_text {s : ByteArray} {k : Nat} {t : Tok} (hk : k < s.size) (h : rd s k = .ok t) : (⟨t.text.toArray⟩ : ByteArray) = s.extract t.frm t.to ∧ t.kind ≠ 0 ∧ t.frm = k := by
  by_cases h2 : kindN s[k].toNat = 2
  · rw [rd_name hk h2] at h
    injection h with h
    subst h
    refine ⟨Lib.mk_data _, ?_, rfl⟩
    simp only
    split <;> decide
  · by_cases h3 : kindN s[k].toNat = 3
    · rw [rd_digit hk h3] at h
      cases hn : num (s.extract k (rnE s k)) with
      | none => rw [nmR_none hn] at h; cases h
      | some n =>
        rw [nmR_some hn] at h
        injection h with h
        subst h
        exact ⟨Lib.mk_data _, by simp, rfl⟩
    · by_cases h4 : kindN s[k].toNat = 4
      · rw [rd_quote hk h4] at h
        cases hn : num (s.extract k (min (k + 3) s.size)) with
        | none => rw [nmR_none hn] at h; cases h
        | some n =>
          rw [nmR_some hn] at h
          injection h with h
          subst h
          exact ⟨Lib.mk_data _, by simp, rfl⟩
      · by_cases hz : signL (s.data.toList.drop k) = 0
        · rw [rd_bad hk h2 h3 h4 hz] at h; cases h
        · rw [rd_sign hk h2 h3 h4 hz] at h
          injection h with h
          subst h
          exact ⟨Lib.mk_data _, by simp, rfl⟩
theorem chain_of {s : ByteArray} : ∀ n k ts, s.size - k ≤ n → k ≤ s.size → sc s k = (ts, none) → Chain s k ts := by
  intro n
  induction n with
  | zero =>
    intro k ts h hk hsc
    have hl := skE_le s k hk
    rw [sc_end hk (by omega)] at hsc
    injection hsc with h1 _
    subst h1
    exact ⟨hk, by omega⟩
  | succ n ih =>
    intro k ts h hk hsc
    have hl := skE_le s k hk
    by_cases hlt : skE s k < s.size
    · cases hr : rd s (skE s k) with
      | error e => rw [sc_err hlt hr] at hsc; simp at hsc
      | ok t =>
        obtain ⟨h1, h2, h3⟩ := sc_ok hlt hr
        rw [h1] at hsc
        injection hsc with e1 e2
        subst e1
        obtain ⟨x1, x2, x3⟩ := rd_text hlt hr
        exact ⟨hk, x3, by omega, h3, x1, x2, ih t.to _ (by omega) h3 (by rw [← e2])⟩
    · rw [sc_end hk (by omega)] at hsc
      injection hsc with h1 _
      subst h1
      exact ⟨hk, by omega⟩

/-- What is left to be looked at, from k on; e: the end has been met. -/
def Cov (s : ByteArray) (ts : List Tok) (i k : Nat) : Prop := (i ≤ ts.length ∧ Chain s k (ts.drop i)) ∨ (i = ts.length + 1 ∧ k = s.size)
theorem cov_step {s : ByteArray} {ts : List Tok} {i k : Nat} (h : Cov s ts i k) (hi : i < ts.length + 1) :
    ∃ t, (ts ++ [(⟨0, [], s.size, s.size, 0⟩ : Tok)])[i]? = some t ∧ k ≤ s.size ∧ t.frm = skE s k ∧ t.frm ≤ t.to ∧ t.to ≤ s.size ∧ (⟨t.text.toArray⟩ : ByteArray) = s.extract t.frm t.to ∧ (t.kind = 0 ↔ i = ts.length) ∧ Cov s ts (i + 1) t.to := by
  rcases h with ⟨h1, h2⟩ | ⟨h1, _⟩
  · by_cases hil : i < ts.length
    · have hd : ts.drop i = ts[i] :: ts.drop (i + 1) := List.drop_eq_getElem_cons hil
      rw [hd] at h2
      obtain ⟨a1, a2, a3, a4, a5, a6, a7⟩ := h2
      refine ⟨ts[i], ?_, a1, a2, a3, a4, a5, ?_, .inl ⟨by omega, a7⟩⟩
      · rw [List.getElem?_append_left hil, List.getElem?_eq_getElem hil]
      · constructor
        · intro h; exact absurd h a6
        · intro h; omega
    · have hie : i = ts.length := by omega
      subst hie
      rw [List.drop_length] at h2
      refine ⟨⟨0, [], s.size, s.size, 0⟩, ?_, h2.1, h2.2.symm, Nat.le_refl _, Nat.le_refl _, ?_, ?_, .inr ⟨rfl, rfl⟩⟩
      · simp
      · apply ByteArray.ext
        simp
      · simp
  · omega

set_option maxRecDepth 100000 in
set_option maxHeartbeats 2000000 in
theorem covers_walk (s : ByteArray) (w : World) (hs : s.size ≤ maxLen) (T : Tabs w) :
    Calls Tryd.prog 7 #[.string s] w fun e w' => e = .returned (.bool true) ∧ Fr [] w w' := by
  unfold maxLen at hs
  by_cases h : (3000 : Int) < s.size
  · go_enter Tryd.func7, Tryd.ntmps7
    go_wp2_with (go_at_call 9; refine (awake_any _ T).mono ?_; rintro e w1 ⟨rfl, F1⟩)
    go_ret
    exact ⟨rfl, F1⟩
  · have h1 := fun w T => scan_any s w (by omega) T
    have hlen := sc_len (s := s)
    have hh : (s.size : Int) ≤ 3000 := by omega
    obtain ⟨ts, er, hsc⟩ : ∃ ts er, sc s 0 = (ts, er) := ⟨_, _, rfl⟩
    unfold scOut at h1
    rw [hsc] at h1 hlen
    simp only at hlen
    clear h
    cases er with
    | some x =>
      obtain ⟨p, c⟩ := x
      have hc := sc_ne0 hsc
      have hc' : ((c : Int) != 0) = true := by simp; omega
      simp only at h1
      clear hsc hc
      go_enter Tryd.func7, Tryd.ntmps7
      go_wp2_with fail
      refine (awake_any _ T).mono ?_
      rintro e w1 ⟨rfl, F1⟩
      have T1 := T.fr F1 (by simp)
      go_wp2_with fail
      refine (h1 w1 T1).mono ?_
      rintro e w2 ⟨rfl, F2⟩
      have FF := F1.trans F2
      go_wp2
      go_ret
      exact ⟨rfl, FF⟩
    | none =>
      have hcov : Cov s ts 0 0 := .inl ⟨Nat.zero_le _, chain_of s.size 0 ts (by omega) (Nat.zero_le _) hsc⟩
      have HCV : Hid (Cov s ts 0 0) := hcov
      simp only at h1
      clear hsc hcov
      go_enter Tryd.func7, Tryd.ntmps7
      go_wp2_with fail
      refine (awake_any _ T).mono ?_
      rintro e w1 ⟨rfl, F1⟩
      have T1 := T.fr F1 (by simp)
      go_wp2_with fail
      refine (h1 w1 T1).mono ?_
      rintro e w2 ⟨⟨v, rfl, hown⟩, F2⟩
      obtain ⟨g1, c1, rfl, hc1, L1⟩ := own_Lt hown (by omega)
      have FF := F1.trans F2
      have hnn : (ts.length : Int) ≤ 3000 := by omega
      have hca1 : (ts.length : Int) + 1 ≤ c1 := by omega
      clear h1 F1 F2 T1 hown
      go_wp2
      go_loopg [6, 27] (ts.length + 1) (fun h a j wr => ∃ i k : Nat, i + h = ts.length + 1 ∧ a = .int .i64 k ∧ j = .int .i64 i ∧ Fr [] w2 wr ∧ Hid (Cov s ts i k))
      case atStart => exact ⟨0, 0, by omega, rfl, rfl, Fr.refl _ _, HCV⟩
      case round =>
        obtain ⟨i, k, hin, rfl, rfl, FW, hcv⟩ := hrel
        cases gk with
        | zero =>
          have hlt : ¬ (i : Int) < (ts.length : Int) + 1 := by omega
          have hk : k = s.size := by
            rcases hcv.out with ⟨h1, _⟩ | ⟨_, h2⟩
            · omega
            · exact h2
          subst hk
          have hz : (0 : Int) < (ts.length : Int) + 1 := by omega
          go_wp2
          go_ret
          exact ⟨rfl, FF.trans FW⟩
        | succ h =>
          have hlt : (i : Int) < (ts.length : Int) + 1 := by omega
          obtain ⟨t, ht, hk, f1, f2, f3, f4, f5, hnx⟩ := cov_step hcv.out (by omega)
          have hks := skE_le s k hk
          rw [← f1] at hks
          have hgap := gap_sc hk
          rw [← f1] at hgap
          have hR := fun w => scanR_any (s.extract k t.frm) w (by rw [ByteArray.size_extract]; omega)
          unfold scOut at hR
          rw [hgap] at hR
          simp only [List.length_nil, Nat.zero_add] at hR
          have c1j : ∀ j, j < 5 → ∀ u, (tokA t)[j]? = some u → wr.cell? ⟨g1, i * 5 + j, none⟩ = some u := fun j hj u hu => by
            have := L1.fr FW (i * 5 + j) u (by rw [flatT_at _ i t ht j hj]; exact hu)
            rwa [Nat.zero_add] at this
          have a0 := c1j 0 (by decide) (.int .i64 t.kind) rfl
          have a1 := c1j 1 (by decide) (.string ⟨t.text.toArray⟩) rfl
          have a2 := c1j 2 (by decide) (.int .i64 t.frm) rfl
          have a3 := c1j 3 (by decide) (.int .i64 t.to) rfl
          have a4 := c1j 4 (by decide) (.int .i64 t.n) rfl
          simp only [Nat.add_zero] at a0
          rw [f4] at a1
          have HNX : Hid _ := hnx
          obtain ⟨k1, k2⟩ := hks
          have hb : (((t.kind : Int) == 0) = true ∧ ((i : Int) == (ts.length : Int)) = true ∧ (i == ts.length) = true) ∨ (((t.kind : Int) == 0) = false ∧ ((i : Int) == (ts.length : Int)) = false ∧ (i == ts.length) = false) := by
            by_cases hk0 : t.kind = 0
            · have hi := f5.1 hk0
              exact .inl ⟨by simp; omega, by simp; omega, by simp; omega⟩
            · have hi : i ≠ ts.length := fun e => hk0 (f5.2 e)
              exact .inr ⟨beq_int_false (by omega), beq_int_false (by omega), by simp; omega⟩
          generalize (t.kind : Int) = x0 at *
          generalize (t.n : Int) = x4 at *
          clear c1j ht f1 f4 f5 hgap hcv hnx hlen
          go_wp2
          have t5 := TB.new wr (.int .i64 x0) (.string (s.extract t.frm t.to)) (.int .i64 t.frm) (.int .i64 t.to) (.int .i64 x4)
          have F5 : Fr [] wr (wr.alloc (.cells #[.int .i64 x0, .string (s.extract t.frm t.to), .int .i64 t.frm, .int .i64 t.to, .int .i64 x4] 35)) := (Fr.refl _ _).alloc _
          have FW5 := FW.trans F5
          clear FW F5 a0 a1 a2 a3 a4
          generalize wr.alloc (.cells #[.int .i64 x0, .string (s.extract t.frm t.to), .int .i64 t.frm, .int .i64 t.to, .int .i64 x4] 35) = w5 at *
          generalize wr.heap.size = C at *
          have f0 := t5.c0
          have f1 := t5.c1
          have f2' := t5.c2
          have f3' := t5.c3
          have f4 := t5.c4
          have q1 : decide ((t.frm : Int) < k) = false := decide_eq_false (by omega)
          have q2 : decide ((t.to : Int) < t.frm) = false := decide_eq_false (by omega)
          have q3 : decide ((s.size : Int) < t.to) = false := decide_eq_false (by omega)
          have i1 : (k : Int) ≤ t.frm := by omega
          have i2 : (t.frm : Int) ≤ t.to := by omega
          have i3 : (t.to : Int) ≤ s.size := by omega
          have r1 : decide (t.frm < k) = false := decide_eq_false (by omega)
          have r2 : decide (t.to < t.frm) = false := decide_eq_false (by omega)
          have r3 : decide (s.size < t.to) = false := decide_eq_false (by omega)
          rcases hb with ⟨b1, b2, b3⟩ | ⟨b1, b2, b3⟩
          all_goals
            go_quiet (fail)
            go_wp2_with fail
            refine (hR _).mono ?_
            rintro e w6 ⟨⟨v6, rfl, hown6⟩, F6⟩
            obtain ⟨g6, c6, rfl, hc6, L6⟩ := own_Lt hown6 (by omega)
            have t6 := (t5.drewN nq).fr F6 (by simp)
            have FW6 := (FW5.drewN nq).trans F6
            have e3 := t6.c3
            clear hown6 F6 FW5 t5 f0 f1 f2' f3' f4 hR L6
            go_wp2
            go_roundg h
            case measure => omega
            case rel => exact ⟨i + 1, t.to, by omega, rfl, by go_num, FW6, HNX⟩
end Go.Proofs.YtcfhngfogclheaaDoor
