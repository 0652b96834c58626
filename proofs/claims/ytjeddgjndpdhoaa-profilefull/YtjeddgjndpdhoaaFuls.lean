/-
  With more keys than may be counted the one with the least count goes, of several the one that has been there longest: ProfileFull returns true at every input; no condition.
-/
import Derived.Test.YtjeddgjndpdhoaaRows
import Derived.Test.YtjeddgjndpdhoaaDor
import Derived.Test.YtjeddgjndpdhoaaFulW
namespace Go.Proofs.Ytjeddgjndpdhoaa.profileFull
open Go.ChangeShapes Go.WideShapes Go.ChangeAt Go.RowKit Go.Joins
set_option linter.unusedVariables false

set_option maxRecDepth 100000 in
theorem lifted (os : Os) (started : os.Started) (H : Type) (enc : TypeId × Value → H) :
    ReturnsInHanded {} Try.checked os 5 .any (Rows.profileFullSpec.pre6 enc Try.prog Try.f5 Rows.profileFullRow.domain false) (Rows.profileFullSpec.post enc Try.prog Try.f5 false true false false) := by
  refine returnsInHanded_of_change (C := Try.checked) own started (by kernel_rfl) Try.func5
    (ChangeSpec.witness6 (enc := enc) (C := Try.checked) false ⟨#[], #[.int .i64 0, .slice none 0 0], []⟩ 8 (by kernel_rfl) (by kernel_rfl) (by kernel_rfl) (by kernel_rfl)) ?_
  intro W base args ds gs before hval0 hW hcnd _
  have hval : ∀ (j : Nat) t v, Try.f5.params[j]? = some t → args[j]? = some v → Value.okWide Try.prog W .any base t v := hval0
  have hW' := hW
  obtain ⟨p, q, hA0, hV, rfl, hfz, hnd⟩ := hW
  have hA : DataW.TrodAll enc Try.prog W 0 (fun _ => true) true Try.f5.params.toList args.toList ds p := hA0
  rw [Try.params5] at hA hval
  obtain ⟨v0, vs0, d0, ds0, p0, q0, hargs, rfl, rfl, h0, r0⟩ := trodAll_cons hA
  obtain ⟨v1, vs1, d1, ds1, p1, q1, rfl, rfl, rfl, h1, r1⟩ := trodAll_cons r0
  obtain ⟨rfl, rfl, rfl⟩ := trodAll_nil r1
  obtain rfl : args = #[v0, v1] := by cases args; simp_all
  obtain ⟨rfl, rfl⟩ := trodVars_none hV
  have k0 := h0
  have lt0 : ∀ x ∈ p0, x.block < W.heap.size := by obtain ⟨m, hm⟩ := k0; exact DataW.trod_lt m _ _ _ hm
  obtain ⟨z0, rfl⟩ := okWide_int Try.underlying3 (hval 0 3 v0 rfl rfl)
  have w0 : (Lit.int .i64 z0).wf = true := by obtain ⟨fu, hfu⟩ := h0; obtain ⟨y, e1, _, e2⟩ := DataW.trod_int Try.underlying3 hfu; simp [Value.cells] at e1; rw [e1]; exact e2
  have k1 := h1
  have lt1 : ∀ x ∈ p1, x.block < W.heap.size := by obtain ⟨m, hm⟩ := k1; exact DataW.trod_lt m _ _ _ hm
  obtain ⟨b1, len1, cap1, rfl⟩ := okWide_slice Try.underlying48 (hval 1 48 v1 rfl rfl)
  obtain ⟨fuel1, hf1⟩ := h1
  obtain ⟨a', cap', L1, e, hp1, hlc1, hcm1, hno1, hat1⟩ := read_list (α := Int) (m := 1) (by omega) Try.underlying48 cells3 (fun y => [.int .i64 y]) (fun y => (Lit.int .i64 y).wf = true) (fun _ => rfl) (fun h => by obtain ⟨n, e1, _, e2⟩ := DataW.trod_int Try.underlying3 h; exact ⟨n, e1, e2⟩) (by simpa [Value.cells] using hf1)
  injection e with e1 e2 e3
  subst e1 e2 e3
  clear hA0 hval0
  refine (profileFull_walk W z0 w0 L1 b1 cap1 hp1 hlc1 hcm1 hno1 hat1).mono fun e W' ⟨he, hF⟩ => ?_
  subst he
  have bel : Below W.heap.size W W' := hF.below (Nat.le_refl _) (by simp)
  exact ⟨_, rfl, _, _, _, [], _, [], hW', trodAll_mk1 (shut_bool Try.underlying4 _), (trodAll_cons_mk (Below.trod laidOut (by kernel_rfl) (of_decide_eq_true (by kernel_rfl)) k0 bel lt0) (trodAll_cons_mk (Below.trod laidOut (by kernel_rfl) (of_decide_eq_true (by kernel_rfl)) k1 bel lt1) trodAll_mk0)), rfl, bel.frame _, fun h => by cases h⟩

theorem over : Rows.profileFullRow.holds Try.pinned (OpenSpec.ofChange Rows.profileFullSpec) :=
  OpenClaim.holds_of_wide 5 Try.f5 rfl rfl rfl rfl rfl rfl rfl ⟨rfl, rfl, rfl, rfl, rfl⟩ rfl rfl rfl rfl rfl (by kernel_rfl) Try.func5 (by kernel_rfl)
    (of_decide_eq_true (by kernel_rfl)) (by unfold Func.isWrapper; first | (rw [if_pos (by decide +kernel)]; kernel_rfl) | (rw [if_neg (by decide +kernel)]; exact ⟨rfl, rfl⟩))
    (fun os started H enc _ => lifted os started H enc)
end Go.Proofs.Ytjeddgjndpdhoaa.profileFull
namespace Go.Proofs.Ytjeddgjndpdhoaa
theorem profileFull_holds : Rows.ProfileFullSaid := profileFull.over
#print axioms profileFull_holds
end Go.Proofs.Ytjeddgjndpdhoaa
