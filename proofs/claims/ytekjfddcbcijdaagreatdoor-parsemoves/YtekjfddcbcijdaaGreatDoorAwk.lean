/-
  What awakes the laws: two texts, as they are read; no condition but the tables.
-/
import Derived.Test.YtekjfddcbcijdaaGreatDoorPrg
namespace Go.Proofs.YtekjfddcbcijdaaGreatDoor
open Go.RowKit
set_option linter.unusedVariables false
set_option linter.unusedSimpArgs false

def awkA : ByteArray := ⟨#[0x66,0x6e,0x20,0x66,0x28,0x29,0x20,0x7b,0x20,0x78,0x2e,0x61,0x5b,0x31,0x5d,0x20,0x3d,0x20,0x2d,0x78,0x20,0x2a,0x20,0x32,0x3b,0x20,0x7d]⟩
def awkB : ByteArray := ⟨#[0x66,0x6e,0x20,0x66,0x28,0x29,0x20,0x7b,0x20,0x31,0x3b,0x20,0x7d]⟩
def lenR : Except (Nat × Nat) (List PN) → Nat × Nat × Nat
  | .ok ms => (ms.length, 0, 0)
  | .error (p, c) => (0, p, c)
theorem awkA_read : lenR (prgL awkA) = (12, 0, 0) := by kernel_rfl
theorem awkB_read : lenR (prgL awkB) = (0, 10, 60) := by kernel_rfl

/-- What the program answers where a text is read as so many nodes. -/
theorem prog_ok {s : ByteArray} {w : World} {n : Nat} (hs : s.size ≤ 200000) (T : Tabs w) (h : lenR (prgL s) = (n, 0, 0)) (hn : 0 < n) :
    Calls Tryz.prog 5 #[.string s] w fun e w' => ∃ a c, e = .returned (.tuple #[.slice a n c, .int .i64 0, .int .i64 0]) ∧ Fr [] w w' := by
  refine (prog_any s w hs T).mono ?_
  rintro e w' ⟨h1, f1⟩
  unfold PrgOut at h1
  cases hp : prgL s with
  | error x =>
    obtain ⟨p, c⟩ := x
    rw [hp] at h
    simp only [lenR, Prod.mk.injEq] at h
    omega
  | ok ms =>
    rw [hp] at h h1
    obtain ⟨nv, L, F', rfl, hL, hown, -⟩ := h1
    simp only [lenR, Prod.mk.injEq] at h
    obtain ⟨a, c, rfl, -⟩ := own_slice hown
    have : L.length = n := by rw [← h.1, ← hL]; simp
    rw [this]
    exact ⟨a, c, rfl, f1⟩
/-- What it answers where a text is refused. -/
theorem prog_no {s : ByteArray} {w : World} {p c : Nat} (hs : s.size ≤ 200000) (T : Tabs w) (h : lenR (prgL s) = (0, p, c)) (hc : 0 < c) :
    Calls Tryz.prog 5 #[.string s] w fun e w' => e = .returned (.tuple #[.slice none 0 0, .int .i64 (p : Nat), .int .i64 (c : Nat)]) ∧ Fr [] w w' := by
  refine (prog_any s w hs T).mono ?_
  rintro e w' ⟨h1, f1⟩
  unfold PrgOut at h1
  cases hp : prgL s with
  | error x =>
    obtain ⟨p', c'⟩ := x
    rw [hp] at h h1
    simp only [lenR, Prod.mk.injEq] at h
    obtain ⟨-, rfl, rfl⟩ := h
    exact ⟨h1, f1⟩
  | ok ms =>
    rw [hp] at h
    simp only [lenR, Prod.mk.injEq] at h
    omega

set_option maxRecDepth 100000 in
set_option maxHeartbeats 1000000 in
theorem awake_any (w : World) (T : Tabs w) : Calls Tryz.prog 4 #[] w fun e w' => e = .returned (.bool true) ∧ Fr [] w w' := by
  have CA := prog_ok (s := awkA) (by decide) T awkA_read (by omega)
  unfold awkA at CA
  go_enter Tryz.func4, Tryz.ntmps4
  go_wp2_with (go_at_call 5; refine CA.mono ?_)
  rintro e w1 ⟨a, c, rfl, f1⟩
  have CB := prog_no (s := awkB) (by decide) (T.fr f1 (by simp)) awkB_read (by omega)
  unfold awkB at CB
  go_wp2_with (go_at_call 5; refine CB.mono ?_)
  rintro e w2 ⟨rfl, f2⟩
  go_wp2
  go_ret
  exact ⟨rfl, f1.trans f2⟩
end Go.Proofs.YtekjfddcbcijdaaGreatDoor
