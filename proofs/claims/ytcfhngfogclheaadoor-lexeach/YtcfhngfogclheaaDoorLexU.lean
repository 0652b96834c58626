/-
  The laws of lines, names and numbers, walked; condition: the tables lie as the program's text lays them.
-/
import Derived.Test.YtcfhngfogclheaaDoorLexT
namespace Go.Proofs.YtcfhngfogclheaaDoor
open Go.RowKit Go.Shelf

set_option maxRecDepth 100000 in
set_option maxHeartbeats 1000000 in
theorem lines_walk (s : ByteArray) (at_ : Int) (w : World) (hs : s.size ≤ maxLen) (T : Tabs w) :
    Calls Tryd.prog 6 #[.string s, .int .i64 at_] w fun e w' => e = .returned (.bool true) ∧ Fr [] w w' := by
  unfold maxLen at hs
  by_cases h : (2000 : Int) < s.size
  · go_enter Tryd.func6, Tryd.ntmps6
    go_wp2_with (go_at_call 9; refine (awake_any _ T).mono ?_; rintro e w1 ⟨rfl, F1⟩)
    go_ret
    exact ⟨rfl, F1⟩
  · have h1 := fun w => line_any s at_ w (by omega)
    have h2 := fun w => lineR_any s at_ w (by omega)
    generalize (lineOf (ahead s at_) : Int) = A at *
    generalize (colOf (ahead s at_) : Int) = B at *
    go_enter Tryd.func6, Tryd.ntmps6
    go_wp2_with (first | (go_at_call 9; refine (awake_any _ T).mono ?_; rintro e w1 ⟨rfl, F1⟩) | (go_at_call 19; refine (h1 _).mono ?_; rintro e w1 ⟨rfl, rfl⟩) | (go_at_call 20; refine (h2 _).mono ?_; rintro e w1 ⟨rfl, rfl⟩))
    go_ret
    exact ⟨rfl, F1⟩

theorem fig_let {n : Nat} (h : isLet n = true) : 10 ≤ fig n := by
  unfold isLet at h
  unfold fig isDig
  simp only [decide_eq_true_eq] at *
  repeat (first | omega | split)
theorem name_num {s : ByteArray} (h : name s = true) : num s = none := by
  have hz : 0 < s.size := by
    rcases Nat.eq_zero_or_pos s.size with e | e
    · rw [name_nil e] at h; cases h
    · exact e
  rw [name_eq hz] at h
  simp only [Bool.and_eq_true] at h
  have hl := h.1.1
  have hl' := hl
  unfold isLet at hl'
  have hl' := of_decide_eq_true hl'
  rw [num_ten (quoted_head hz (by omega)) ?_]
  · obtain ⟨l, e⟩ := head_of hz
    rw [e]
    simp only [valueL]
    rw [if_neg (by simp)]
    exact valL_stop (.inl (fig_let hl))
  · by_cases h1 : 1 < s.size
    · rw [prefix_at h1, decide_eq_false (by omega)]
      rfl
    · exact prefix_short h1

set_option maxRecDepth 100000 in
set_option maxHeartbeats 1000000 in
theorem names_walk (s : ByteArray) (w : World) (hs : s.size ≤ maxLen) (T : Tabs w) :
    Calls Tryd.prog 5 #[.string s] w fun e w' => e = .returned (.bool true) ∧ Fr [] w w' := by
  unfold maxLen at hs
  by_cases h : (2000 : Int) < s.size
  · go_enter Tryd.func5, Tryd.ntmps5
    go_wp2_with (go_at_call 9; refine (awake_any _ T).mono ?_; rintro e w1 ⟨rfl, F1⟩)
    go_ret
    exact ⟨rfl, F1⟩
  · have hs' : s.size ≤ maxLen := by unfold maxLen; omega
    have h1 := fun w => number_any s w hs'
    have h2 := fun w => numberR_any s w hs'
    have h3 := fun w T => name_any s w hs' T
    have h4 := fun w => nameR_any s w hs'
    have h5 : Hid (name s = true → (num s).isSome = false) := fun h => by rw [name_num h]; rfl
    clear hs'
    unfold nOut at h1 h2
    generalize name s = A at *
    generalize (((num s).getD 0 : Nat) : Int) = B at *
    generalize (num s).isSome = C at *
    go_enter Tryd.func5, Tryd.ntmps5
    go_wp2_with fail
    refine (awake_any _ T).mono ?_
    rintro e w1 ⟨rfl, F1⟩
    have T1 := T.fr F1 (by simp)
    go_wp2_with fail
    refine (h1 _).mono ?_
    rintro e w1 ⟨rfl, rfl⟩
    go_wp2_with fail
    refine (h2 _).mono ?_
    rintro e w1 ⟨rfl, rfl⟩
    go_wp2_with fail
    refine (h3 _ T1).mono ?_
    rintro e w1 ⟨rfl, rfl⟩
    go_wp2_with fail
    refine (h4 _).mono ?_
    rintro e w2 ⟨rfl, F2⟩
    have T2 := T1.fr F2 (by simp)
    have F12 := F1.trans F2
    cases C
    · go_wp2
      go_ret
      refine ⟨?_, F12⟩
      simp
    · cases A
      · go_wp2_with (go_at_call 17; refine (h3 _ T2).mono ?_; rintro e w3 ⟨rfl, rfl⟩)
        go_ret
        exact ⟨rfl, F12⟩
      · exact absurd (h5.out rfl) (by decide)
end Go.Proofs.YtcfhngfogclheaaDoor
