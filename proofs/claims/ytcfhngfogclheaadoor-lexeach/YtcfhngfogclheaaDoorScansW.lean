/-
  The law of all tokens, walked; condition: the tables lie as the program's text lays them.
-/
import Derived.Test.YtcfhngfogclheaaDoorLexY
import Derived.Test.YtcfhngfogclheaaDoorSame
namespace Go.Proofs.YtcfhngfogclheaaDoor
open Go.RowKit

theorem readL_ne0 {p e : Nat} {l : List UInt8} (h : readL p l = .error e) : e ≠ 0 := by
  unfold readL at h
  repeat (first | (cases h; omega) | cases h | split at h)
  all_goals simp_all
theorem scanL_ne0 : ∀ (f p : Nat) (l : List UInt8) (x : Nat × Nat), (scanL f p l).2 = some x → x.2 ≠ 0 := by
  intro f
  induction f with
  | zero => intro p l x h; simp [scanL] at h
  | succ f ih =>
    intro p l x h
    simp only [scanL] at h
    split at h
    · simp at h
    · cases hr : readL (p + skipL false l) (l.drop (skipL false l)) with
      | error e =>
        rw [hr] at h
        simp at h
        rw [← h]
        exact readL_ne0 hr
      | ok t =>
        rw [hr] at h
        exact ih _ _ _ h
theorem sc_ne0 {s : ByteArray} {k : Nat} {ts : List Tok} {p c : Nat} (h : sc s k = (ts, some (p, c))) : c ≠ 0 := by
  unfold sc at h
  exact scanL_ne0 _ _ _ (p, c) (by rw [h])
theorem own_Lt {w : World} {B n : Nat} {v : Value} {ts : List Tok} (h : w.ownsRow B 35 5 v n (flatT ts)) (hn : 0 < n) : ∃ g c, v = .slice (some ⟨g, 0, none⟩) n c ∧ n ≤ c ∧ Lt w g 0 ts := by
  obtain ⟨g, c, e, h1, _, _, hc⟩ := own_some h hn
  exact ⟨g, c, e, h1, fun j u hu => by rw [Nat.zero_add]; exact hc j u hu⟩
theorem Lt.fr {w w' : World} {g o : Nat} {ts : List Tok} (h : Lt w g o ts) (f : Fr [] w w') : Lt w' g o ts := fun j u hu => f.cell1 (h j u hu) (by simp)
theorem sc_len {s : ByteArray} : (sc s 0).1.length ≤ s.size := by
  have : ∀ n k, s.size - k ≤ n → k ≤ s.size → (sc s k).1.length + k ≤ s.size := by
    intro n
    induction n with
    | zero =>
      intro k h hk
      rw [sc_end hk (by have := (skE_le s k hk).1; omega)]
      simpa using hk
    | succ n ih =>
      intro k h hk
      have hl := skE_le s k hk
      by_cases hlt : skE s k < s.size
      · cases hr : rd s (skE s k) with
        | error e => rw [sc_err hlt hr]; simpa using hk
        | ok t =>
          obtain ⟨h1, h2, h3⟩ := sc_ok hlt hr
          rw [h1]
          have := ih t.to (by omega) h3
          simp
          omega
      · rw [sc_end hk (by omega)]; simpa using hk
  exact this s.size 0 (by omega) (Nat.zero_le _)

set_option maxRecDepth 100000 in
set_option maxHeartbeats 1000000 in
theorem scans_walk (s : ByteArray) (w : World) (hs : s.size ≤ maxLen) (T : Tabs w) :
    Calls Tryd.prog 3 #[.string s] w fun e w' => e = .returned (.bool true) ∧ Fr [] w w' := by
  unfold maxLen at hs
  by_cases h : (3000 : Int) < s.size
  · go_enter Tryd.func3, Tryd.ntmps3
    go_wp2_with (go_at_call 9; refine (awake_any _ T).mono ?_; rintro e w1 ⟨rfl, F1⟩)
    go_ret
    exact ⟨rfl, F1⟩
  · have h1 := fun w T => scan_any s w (by omega) T
    have h2 := fun w => scanR_any s w (by omega)
    have hlen := sc_len (s := s)
    go_enter Tryd.func3, Tryd.ntmps3
    go_wp2_with fail
    refine (awake_any _ T).mono ?_
    rintro e w1 ⟨rfl, F1⟩
    have T1 := T.fr F1 (by simp)
    go_wp2_with fail
    refine (h1 w1 T1).mono ?_
    rintro e w2 ⟨ho1, F2⟩
    obtain ⟨ts, er, hsc⟩ : ∃ ts er, sc s 0 = (ts, er) := ⟨_, _, rfl⟩
    unfold scOut at ho1 h2
    rw [hsc] at ho1 h2 hlen
    simp only at hlen
    cases er with
    | some x =>
      obtain ⟨p, c⟩ := x
      have hc := sc_ne0 hsc
      have hc' : ((c : Int) != 0) = true := by simp; omega
      simp only at ho1 h2
      subst ho1
      clear hsc hc
      go_wp2_with fail
      refine (h2 w2).mono ?_
      rintro e w3 ⟨rfl, F3⟩
      have FF := (F1.trans F2).trans F3
      clear h1 h2 F1 F2 F3
      generalize (c : Int) = c' at *
      generalize (p : Int) = p' at *
      go_wp2
      go_ret
      exact ⟨rfl, FF⟩
    | none =>
      simp only at ho1 h2
      obtain ⟨v, rfl, hown⟩ := ho1
      obtain ⟨g1, c1, rfl, hc1, L1⟩ := own_Lt hown (by omega)
      clear hsc
      go_wp2_with fail
      refine (h2 w2).mono ?_
      rintro e w3 ⟨⟨v2, rfl, hown2⟩, F3⟩
      obtain ⟨g2, c2, rfl, hc2, L2⟩ := own_Lt hown2 (by omega)
      have FF := (F1.trans F2).trans F3
      have hS := same_any w3 (some ⟨g1, 0, none⟩) (some ⟨g2, 0, none⟩) g1 g2 0 0 (ts.length + 1) c1 c2 (ts ++ [⟨0, [], s.size, s.size, 0⟩]) (by simp) (fun _ => rfl) (fun _ => rfl) (L1.fr F3) L2 (by omega)
      clear h1 h2 F1 F2 F3 hown hown2 L1 L2
      go_wp2_with (go_at_call 12; refine hS.mono ?_; rintro e w4 ⟨rfl, F4⟩)
      go_ret
      exact ⟨rfl, FF.trans F4⟩
end Go.Proofs.YtcfhngfogclheaaDoor
