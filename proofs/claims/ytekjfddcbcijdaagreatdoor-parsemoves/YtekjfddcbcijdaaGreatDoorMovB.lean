/-
  A line ahead of a text: what is read is the same, its places moved; no condition.
-/
import Derived.Test.YtekjfddcbcijdaaGreatDoorMovA
namespace Go.Proofs.YtekjfddcbcijdaaGreatDoor
open Go.RowKit
set_option linter.unusedVariables false
set_option linter.unusedSimpArgs false

def lineB : List UInt8 := [47, 47, 32, 97, 32, 108, 105, 110, 101, 10]
def Ahead (s s' : ByteArray) : Prop := s'.data.toList = lineB ++ s.data.toList
def shE (d : Nat) : Except Nat Tok → Except Nat Tok
  | .ok t => .ok (sh d t)
  | .error e => .error e
theorem readL_sh (d p : Nat) (l : List UInt8) : readL (p + d) l = shE d (readL p l) := by
  unfold readL
  split
  · simp [shE, sh]; omega
  split
  · split <;> simp [shE, sh]; omega
  split
  · split <;> simp [shE, sh]; omega
  split
  · rfl
  · simp [shE, sh]; omega
theorem ahSize {s s' : ByteArray} (h : Ahead s s') : s'.size = s.size + 10 := by
  rw [Lib.size_eq, Lib.size_eq, h]
  simp [lineB]
theorem ahDrop {s s' : ByteArray} (h : Ahead s s') (k : Nat) : s'.data.toList.drop (k + 10) = s.data.toList.drop k := by
  rw [h, Nat.add_comm, ← List.drop_drop]
  rfl
theorem ahSk {s s' : ByteArray} (h : Ahead s s') (k : Nat) : skE s' (k + 10) = skE s k + 10 := by
  unfold skE
  rw [ahDrop h]
  omega
theorem ahRd {s s' : ByteArray} (h : Ahead s s') (k : Nat) : rd s' (k + 10) = shE 10 (rd s k) := by
  unfold rd
  rw [ahDrop h, readL_sh]
def shS (r : List Tok × Option (Nat × Nat)) : List Tok × Option (Nat × Nat) := (r.1.map (sh 10), r.2.map (fun x => (x.1 + 10, x.2)))
theorem ahSc {s s' : ByteArray} (h : Ahead s s') : ∀ (n k : Nat), s.size - k ≤ n → k ≤ s.size → sc s' (k + 10) = shS (sc s k) := by
  intro n
  induction n with
  | zero =>
    intro k hn hk
    have e := skE_le s k hk
    rw [sc_end hk (by omega), sc_end (by rw [ahSize h]; omega) (by rw [ahSize h, ahSk h]; omega)]
    rfl
  | succ n ih =>
    intro k hn hk
    have e := skE_le s k hk
    by_cases hE : s.size ≤ skE s k
    · rw [sc_end hk hE, sc_end (by rw [ahSize h]; omega) (by rw [ahSize h, ahSk h]; omega)]
      rfl
    · have hlt : skE s k < s.size := by omega
      have hlt' : skE s' (k + 10) < s'.size := by rw [ahSize h, ahSk h]; omega
      have hr := ahRd h (skE s k)
      rw [← ahSk h] at hr
      cases hx : rd s (skE s k) with
      | error c =>
        rw [hx] at hr
        rw [sc_err hlt hx, sc_err hlt' hr, ahSk h]
        rfl
      | ok t =>
        rw [hx] at hr
        obtain ⟨q1, q2, q3⟩ := sc_ok hlt hx
        obtain ⟨r1, r2, r3⟩ := sc_ok hlt' hr
        rw [q1, r1]
        have := ih t.to (by omega) q3
        show (sh 10 t :: (sc s' (t.to + 10)).1, (sc s' (t.to + 10)).2) = _
        rw [this]
        rfl
theorem sc_congr {s : ByteArray} {j k : Nat} (hj : j ≤ s.size) (hk : k ≤ s.size) (h : skE s j = skE s k) : sc s j = sc s k := by
  by_cases hE : s.size ≤ skE s k
  · rw [sc_end hk hE, sc_end hj (by omega)]
  · have hlt : skE s k < s.size := by omega
    cases hx : rd s (skE s k) with
    | error c => rw [sc_err hlt hx, sc_err (by omega) (by rw [h]; exact hx), h]
    | ok t => rw [(sc_ok hlt hx).1, (sc_ok (by omega) (by rw [h]; exact hx)).1]
theorem ahSc0 {s s' : ByteArray} (h : Ahead s s') : sc s' 0 = shS (sc s 0) := by
  rw [← ahSc h s.size 0 (by omega) (by omega)]
  refine sc_congr (by omega) (by rw [ahSize h]; omega) ?_
  unfold skE
  rw [ahDrop h, h]
  simp [lineB, skipL, isBl]
  omega
theorem tooO_sh (d : Nat) : ∀ (ts : List Tok) (o : Nat), tooO (ts.map (sh d)) o = (tooO ts o).map (· + d)
  | [], _ => rfl
  | t :: r, o => by
    simp only [List.map_cons, tooO]
    have e : (sh d t).text = t.text := rfl
    rw [e]
    split
    · rfl
    · exact tooO_sh d r _
theorem withEnd_sh {s s' : ByteArray} (h : Ahead s s') (ts : List Tok) : withEnd s' (ts.map (sh 10)) = (withEnd s ts).map (sh 10) := by
  unfold withEnd
  simp [sh, ahSize h]
theorem deep_sh (d : Nat) (ms : List PN) : deepP (ms.map (shN d)) = deepP ms := by
  unfold deepP deepL
  have e : ((ms.map (shN d)).map ndX).map Nd.ks = (ms.map ndX).map Nd.ks := by simp [ndX, shN, Function.comp_def]
  rw [depths_congr e]
  simp
/-- What a line ahead does. -/
def shP : Except (Nat × Nat) (List PN) → Except (Nat × Nat) (List PN) → Prop
  | .ok ms, r => r = .ok (ms.map (shN 10))
  | .error (p, c), r => ∃ q, r = .error (q, c) ∧ (q = p + 10 ∨ (q = p ∧ (c = 2 ∨ c = 51)))
theorem fullP_sh {ts : List Tok} (h : Toks ts) (d : Nat) (h' : Toks (ts.map (sh d))) : some (fullP (ts.map (sh d))) = shR d (some (fullP ts)) := by
  rw [← fullP_eq h, ← fullP_eq h', List.length_map]
  exact (moved h d (40 * ts.length + 29) .prog 0 [] h.pos trivial rfl).2
theorem fullP_lt {ts : List Tok} (h : Toks ts) {e : Nat} (he : fullP ts = .error e) : e < ts.length :=
  (good h (40 * ts.length + 29) .prog 0 [] h.pos trivial).2.1 e (by rw [fullP_eq h, he])
theorem prg_moved {s s' : ByteArray} (h : Ahead s s') : shP (prgL s) (prgL s') := by
  have h0 := ahSc0 h
  rcases hsc : sc s 0 with ⟨ts, _ | ⟨p, c⟩⟩
  · rw [hsc] at h0
    have h0' : sc s' 0 = (ts.map (sh 10), none) := h0
    rw [prgL_after hsc rfl, prgL_after h0' rfl]
    have hT : Toks (withEnd s ts) := (toks_of (by rw [hsc])).1
    have hT' : Toks (withEnd s' (ts.map (sh 10))) := (toks_of (by rw [h0'])).1
    rw [withEnd_sh h] at hT' ⊢
    generalize withEnd s ts = us at *
    unfold afterL
    rw [tooO_sh]
    cases ht : tooO us 0 with
    | some p => exact ⟨p + 10, rfl, .inl rfl⟩
    | none =>
      simp only [Option.map_none]
      have hf := fullP_sh hT 10 hT'
      cases hx : fullP us with
      | error k =>
        rw [hx] at hf
        have hf' : fullP (us.map (sh 10)) = .error k := Option.some.inj hf
        rw [hf']
        exact ⟨_, rfl, .inl (frm_sh (fullP_lt hT hx))⟩
      | ok x =>
        obtain ⟨v, j, ms⟩ := x
        rw [hx] at hf
        have hf' : fullP (us.map (sh 10)) = .ok (v, j, ms.map (shN 10)) := Option.some.inj hf
        rw [hf']
        simp only [List.length_map, deep_sh]
        split
        · exact ⟨0, rfl, .inr ⟨rfl, .inl rfl⟩⟩
        · split
          · exact ⟨0, rfl, .inr ⟨rfl, .inr rfl⟩⟩
          · exact rfl
  · rw [hsc] at h0
    have h0' : sc s' 0 = (ts.map (sh 10), some (p + 10, c)) := h0
    unfold prgL
    rw [hsc, h0']
    exact ⟨p + 10, rfl, .inl rfl⟩
end Go.Proofs.YtekjfddcbcijdaaGreatDoor
