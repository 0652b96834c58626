/-
  Sorting rows of at most two numbers, and taking out what stands twice in them; conditions: the row is the caller's own.
-/
import Derived.Test.YtajdnakpljgkpaaDoorIrG
namespace Go.Proofs.YtajdnakpljgkpaaDoor
open Go.RowKit
set_option linter.unusedVariables false
set_option linter.unusedSimpArgs false

theorem wrap2 (n : Nat) (hn : n ≤ 2) : IntKind.i64.wrap ((n : Int) - 0) = n := by
  match n, hn with
  | 0, _ => decide
  | 1, _ => decide
  | 2, _ => decide

set_option maxRecDepth 100000 in
set_option maxHeartbeats 1000000 in
theorem pdq_any (v : Value) (n : Nat) (z : Int) (hn : n ≤ 2) (w : World) (hv : ∃ a c, v = .slice a n c) (R : World → Prop) (h : Calls Tryd.prog 90 #[v, .int .i64 0, .int .i64 n] w fun e w' => e = .returned (.tuple #[]) ∧ R w') :
    Calls Tryd.prog 86 #[v, .int .i64 0, .int .i64 n, .int .i64 z] w fun e w' => e = .returned (.tuple #[]) ∧ R w' := by
  have hnI : (n : Int) ≤ 2 := by omega
  have h0 : (0 : Int) ≤ n := by omega
  have HC : Hid (Calls Tryd.prog 90 #[v, .int .i64 0, .int .i64 n] w fun e w' => e = .returned (.tuple #[]) ∧ R w') := h
  clear h
  obtain ⟨a, c, rfl⟩ := hv
  have hwr := wrap2 n hn
  go_enter Tryd.func86, Tryd.ntmps86
  go_wp2
  go_loopw [1, 2, 3] (fun x y t wr => x = .int .i64 0 ∧ y = .int .i64 n ∧ t = .int .i64 z ∧ wr = w) (fun _ _ _ _ => 0)
  case atStart => exact ⟨rfl, rfl, rfl, rfl⟩
  case round =>
    obtain ⟨rfl, rfl, rfl, rfl⟩ := hrel
    go_wp2_with (go_at_call 90; refine HC.out.mono ?_; rintro e w' ⟨rfl, hR⟩)
    try simp only [Exit.inBlock, Exit.then]
    exact bodyPost_ret (results_none rfl _ _ _) rfl ⟨rfl, hR⟩

theorem OR.rowB {w : World} {base : Nat} {v : Value} {K : List Int} (h : OR w base v K) (hK : K ≠ []) : ∃ g c r, v = .slice (some ⟨g, 0, none⟩) K.length c ∧ base ≤ g ∧ RowB w g (K.map (Value.int .i64) ++ r) ∧ K.length + r.length = c ∧ c ≤ maxLen := by
  obtain ⟨h1, h2⟩ := h
  rcases h2 with ⟨e, h0⟩ | ⟨g, cap, cur, e, hb, hg, hc, hm, hs, ht⟩
  · exact absurd (List.length_eq_zero_iff.1 h0) hK
  · refine ⟨g, cap, cur.toList.drop (K.length * 1), e, hb, ?_, ?_, hm⟩
    · unfold RowB
      rw [← ht, List.take_append_drop]
      simpa using hg
    · simp [hs]; omega
theorem RowB.or {w : World} {base g c : Nat} {K : List Int} {r : List Value} (h : RowB w g (K.map (Value.int .i64) ++ r)) (hb : base ≤ g) (hl : K.length + r.length = c) (hc : c ≤ maxLen) : OR w base (.slice (some ⟨g, 0, none⟩) K.length c) K :=
  ⟨by simp, .inr ⟨g, c, _, rfl, hb, h, by omega, hc, by simp; omega, by simp⟩⟩
theorem srt2_len (K : List Int) : (srt2 K).length = K.length := by
  unfold srt2
  split
  · split <;> rfl
  · rfl

set_option maxRecDepth 100000 in
set_option maxHeartbeats 1000000 in
theorem sort_any (base : Nat) (v : Value) (K : List Int) (hK : K.length ≤ 2) (w : World) (h : OR w base v K) :
    Calls Tryd.prog 73 #[v] w fun e w' => e = .returned (.tuple #[]) ∧ (OR w' base v (srt2 K) ∧ Fr v.ownBlock.toList w w') := by
  have hn : ∃ a c, v = .slice a K.length c := by obtain ⟨a, c, e, _⟩ := h.slice; exact ⟨a, c, e⟩
  have C : ∀ z, Calls Tryd.prog 86 #[v, .int .i64 0, .int .i64 K.length, .int .i64 z] w fun e w' => e = .returned (.tuple #[]) ∧ (OR w' base v (srt2 K) ∧ Fr v.ownBlock.toList w w') := fun z => by
    refine pdq_any v K.length z hK w hn _ ?_
    match K, hK with
    | [], _ =>
      obtain ⟨a, c, rfl⟩ := hn
      refine (ins1_any a 0 c (by omega) w).mono ?_
      rintro e w' ⟨rfl, rfl⟩
      exact ⟨rfl, h, Fr.refl _ _⟩
    | [k], _ =>
      obtain ⟨a, c, rfl⟩ := hn
      refine (ins1_any a 1 c (by omega) w).mono ?_
      rintro e w' ⟨rfl, rfl⟩
      exact ⟨rfl, h, Fr.refl _ _⟩
    | [a, b], _ =>
      obtain ⟨g, c, r, rfl, hb, hr, hl, hc⟩ := h.rowB (by simp)
      refine (ins2_any g c a b r w hr).mono ?_
      rintro e w' ⟨rfl, f, h2⟩
      refine ⟨rfl, ?_, by simpa [Value.ownBlock] using f⟩
      have := h2.or hb (c := c) (by rw [srt2_len]; exact hl) hc
      rw [srt2_len] at this
      exact this
  have HC : Hid (∀ z, Calls Tryd.prog 86 #[v, .int .i64 0, .int .i64 K.length, .int .i64 z] w fun e w' => e = .returned (.tuple #[]) ∧ (OR w' base v (srt2 K) ∧ Fr v.ownBlock.toList w w')) := C
  have hu : ((K.length : Int) % 18446744073709551616) = K.length := by omega
  have CL := fun w' => len_any K.length hK w'
  clear C h
  obtain ⟨a, c, rfl⟩ := hn
  have hKI : (K.length : Int) ≤ 2 := by omega
  generalize hKl : K.length = n at *
  clear hKl
  go_enter Tryd.func73, Tryd.ntmps73
  go_wp2_with (first | (go_at_call 87; refine (CL _).mono ?_; rintro e w' ⟨z, rfl, rfl⟩) | (go_at_call 86; refine (HC.out _).mono ?_; rintro e w' ⟨rfl, hR⟩))
  go_end0
  exact ⟨rfl, hR⟩
end Go.Proofs.YtajdnakpljgkpaaDoor
