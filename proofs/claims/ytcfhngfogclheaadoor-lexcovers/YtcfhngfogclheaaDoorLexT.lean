/-
  Chapter 4's examples come out as the document says; condition: the tables lie as the program's text lays them.
-/
import Derived.Test.YtcfhngfogclheaaDoorLexS
namespace Go.Proofs.YtcfhngfogclheaaDoor
open Go.RowKit Go.Shelf

theorem ex1 : sc ⟨#[120, 60, 60, 61, 48, 120, 49, 70]⟩ 0 = ([⟨1, [120], 0, 1, 0⟩, ⟨3, [60, 60], 1, 3, 0⟩, ⟨3, [61], 3, 4, 0⟩, ⟨4, [48, 120, 49, 70], 4, 8, 31⟩], none) := by kernel_rfl
theorem ex2 : sc ⟨#[49, 50, 97]⟩ 0 = ([], some (0, 41)) := by kernel_rfl
theorem ex3 : lineOf (ahead ⟨#[97, 10, 98]⟩ 2) = 2 ∧ colOf (ahead ⟨#[97, 10, 98]⟩ 2) = 1 := by decide +kernel
theorem ex4 : num ⟨#[39, 97, 39]⟩ = some 97 := by decide +kernel
theorem ex5 : name ⟨#[120]⟩ = true := by decide +kernel

theorem own_some {w : World} {B n : Nat} {e : TypeId} {size : Nat} {v : Value} {xs : List Value} (h : w.ownsRow B e size v n xs) (hn : 0 < n) : ∃ g c, v = .slice (some ⟨g, 0, none⟩) n c ∧ n ≤ c ∧ c ≤ maxLen ∧ B ≤ g ∧ ∀ j u, xs[j]? = some u → w.cell? ⟨g, j, none⟩ = some u := by
  rcases h.2 with ⟨_, e2⟩ | ⟨g, cap, cur, e1, r1, hgg, r2, r3, r4, r5⟩
  · omega
  · refine ⟨g, cap, e1, r2, r3, r1, fun j u hu => ?_⟩
    subst e1
    have := h.cells (g := g) rfl j u hu
    have hadd : (⟨g, 0, none⟩ : Addr).add j = ⟨g, j, none⟩ := by unfold Addr.add; split <;> simp_all
    rwa [hadd] at this

set_option maxRecDepth 100000 in
set_option maxHeartbeats 1000000 in
theorem awake_any (w : World) (T : Tabs w) : Calls Tryd.prog 9 #[] w fun e w' => e = .returned (.bool true) ∧ Fr [] w w' := by
  have h1 := fun w T => scan_any ⟨#[120, 60, 60, 61, 48, 120, 49, 70]⟩ w (by decide) T
  have h2 := fun w T => scan_any ⟨#[49, 50, 97]⟩ w (by decide) T
  have h3 := fun w => line_any ⟨#[97, 10, 98]⟩ 2 w (by decide)
  have h4 := fun w => number_any ⟨#[39, 97, 39]⟩ w (by decide)
  have h5 := fun w T => name_any ⟨#[120]⟩ w (by decide) T
  rw [ex3.1, ex3.2] at h3
  rw [ex4, nOut] at h4
  simp only [Option.getD_some, Option.isSome_some] at h4
  rw [ex5] at h5
  go_enter Tryd.func9, Tryd.ntmps9
  go_wp2_with fail
  refine (h1 w T).mono ?_
  rintro e w1 ⟨ho, F1⟩
  unfold scOut at ho
  rw [ex1] at ho
  obtain ⟨v, rfl, hown⟩ := ho
  obtain ⟨g, c, rfl, hc1, hc2, hB, hcell⟩ := own_some hown (by decide)
  have c31 : w1.cell? ⟨g, 19, none⟩ = some (.int .i64 31) := hcell 19 _ rfl
  have T1 := T.fr F1 (by simp)
  simp only [List.length_cons, List.length_nil, Nat.reduceAdd] at hc1 ⊢
  clear hown hcell hB
  go_wp2_with fail
  refine (h2 w1 T1).mono ?_
  rintro e w2 ⟨ho, F2⟩
  unfold scOut at ho
  rw [ex2] at ho
  simp only at ho
  subst ho
  have T2 := T1.fr F2 (by simp)
  have d31 := F2.cell1 c31 (by simp)
  have F12 := F1.trans F2
  unfold maxLen at hc2
  clear c31 F1 F2 T1
  go_wp2_with (first | (go_at_call 19; refine (h3 _).mono ?_; rintro e w' ⟨rfl, rfl⟩) | (go_at_call 15; refine (h4 _).mono ?_; rintro e w' ⟨rfl, rfl⟩) | (go_at_call 17; refine (h5 _ T2).mono ?_; rintro e w' ⟨rfl, rfl⟩))
  go_ret
  exact ⟨rfl, F12⟩
end Go.Proofs.YtcfhngfogclheaaDoor
