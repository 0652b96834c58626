/-
  Any tree comes out in the document's form, byte by byte, and what is no tree is refused, for every list of nodes; condition: none but the tables as the program lays them.
-/
import Derived.Test.YtnebhkglpggnlaaGreatDoorMgAOEE
import Derived.Test.YtnebhkglpggnlaaGreatDoorMgLGAL
namespace Go.Proofs.YtnebhkglpggnlaaGreatDoor
open Go.ChangeMaps Go.ChangeShapes Go.WideShapes Go.ChangeAt Go.RowKit
set_option linter.unusedVariables false
set_option maxRecDepth 100000

theorem nodes_smallP {L : List T5.Nd} (h : ∀ (i : Nat) (y : T5.Nd), L[i]? = some y → y.ks.length * 8 ≤ reachBytes ∧ y.text.size ≤ reachBytes ∧ y.pl ≤ 9223372036854775807) : ∀ x ∈ L, x.ks.length * 8 ≤ 140737488355328 ∧ x.text.size ≤ 140737488355328 := fun x hx => by
  obtain ⟨i, hi⟩ := List.mem_iff_getElem?.1 hx
  have := h i x hi
  unfold reachBytes at this
  omega
theorem nodes_plP {L : List T5.Nd} (h : ∀ (i : Nat) (y : T5.Nd), L[i]? = some y → y.ks.length * 8 ≤ reachBytes ∧ y.text.size ≤ reachBytes ∧ y.pl ≤ 9223372036854775807) : ∀ x ∈ L, x.pl ≤ 9223372036854775807 := fun x hx => by
  obtain ⟨i, hi⟩ := List.mem_iff_getElem?.1 hx
  exact (h i x hi).2.2

set_option maxRecDepth 100000 in
set_option maxHeartbeats 1000000 in
theorem showPrograms_walk (L : List T5.Nd) (w : World) (a : Option Addr) (len cap : Nat) (hlen : L.length = len) (hL : T5.NAt w.heap.size w a L) (hm : len ≤ 2600000000000) (TT : Tabs w) (hz : ∀ x ∈ L, x.ks.length * 8 ≤ 140737488355328 ∧ x.text.size ≤ 140737488355328) (hp : ∀ x ∈ L, x.pl ≤ 9223372036854775807) :
    Calls Tryz.prog 3 #[.slice a len cap] w fun e w' => e = .returned (.bool true) ∧ Fr [] w w' := by
  have CA := awake7_any w TT
  go_enter Tryz.func3, Tryz.ntmps3
  go_wp2_with fail
  refine CA.mono ?_
  rintro e w1 ⟨rfl, f1⟩
  have CF := few7_any w.heap.size L w1 a len cap hlen (hL.fr f1 (by simp)) hm f1.size hz
  clear CA
  go_wp2_with fail
  refine CF.mono ?_
  rintro e w2 ⟨⟨v, rfl, hv⟩, f2⟩
  have F2 := f1.trans f2
  clear CF
  cases v with
  | false =>
    go_wp2
    go_ret
    exact ⟨rfl, F2⟩
  | true =>
    have C1 := showP_any w.heap.size L w2 a len cap hlen (hL.fr F2 (by simp)) hm F2.size (TT.fr F2 (by simp)) hp (hv rfl)
    have C2 := fun w3 (f : Fr [] w w3) => rshowP_any w.heap.size L w3 a len cap hlen (hL.fr f (by simp)) hm f.size hp (hv rfl)
    generalize progO L = R at C1 C2
    obtain ⟨S, q⟩ := R
    clear hL hz hp hv
    go_wp2_with fail
    refine C1.mono ?_
    rintro e w3 ⟨rfl, f3⟩
    have F3 := F2.trans f3
    have C3 := C2 w3 F3
    clear C1 C2
    go_wp2_with fail
    refine C3.mono ?_
    rintro e w4 ⟨rfl, f4⟩
    have F4 := F3.trans f4
    go_wp2
    go_ret
    exact ⟨by simp, F4⟩
/-- What the walk gives, for every argument and every world that holds the tables. -/
theorem showPrograms_contract (H : Type) (enc : TypeId × Value → H) (W : World) (base : Nat) (args : Array Value) (ds gs : List (DataW H)) (before : List MemPlace)
    (hval : ∀ (j : Nat) t v, Tryz.f3.params[j]? = some t → args[j]? = some v → Value.okWide Tryz.prog W .any base t v)
    (hW : DataW.Whole enc Tryz.prog Tryz.f3.params.toList Rows.showProgramsSpec.vars false W args.toList ds gs before) (hS : (DataW.weightsEach Tryz.prog (Tryz.f3.params.toList ++ Rows.showProgramsSpec.plain.varTypes Tryz.prog) (ds ++ gs)).all (· ≤ reachBytes) = true) (hL : laidMetH Tryz.prog laidL W) :
    Calls Tryz.prog 3 args W fun e W' => ∃ v, e = .returned v ∧ Rows.showProgramsSpec.post enc Tryz.prog Tryz.f3 false true false false W args v W' := by
  have hW' := hW
  obtain ⟨p, q, hA0, hV, rfl, hfz, hnd⟩ := hW
  have hA : DataW.TrodAll enc Tryz.prog W 0 (fun _ => true) true Tryz.f3.params.toList args.toList ds p := hA0
  rw [Tryz.params3] at hA hval hS
  obtain ⟨v0, vs0, d0, ds0, p0, q0, hargs, rfl, rfl, h0, r0⟩ := trodAll_cons hA
  obtain ⟨rfl, rfl, rfl⟩ := trodAll_nil r0
  obtain rfl : args = #[v0] := by cases args; simp_all
  obtain ⟨rfl, rfl⟩ := trodVars_none hV
  obtain ⟨b1, len1, cap1, rfl⟩ := okWide_slice Tryz.underlying22 (hval 0 22 v0 rfl rfl)
  have k0 := h0
  have lt0 : ∀ x ∈ p0, x.block < W.heap.size := by obtain ⟨m, hm⟩ := k0; exact DataW.trod_lt m _ _ _ hm
  obtain ⟨fuel, hf⟩ := h0
  have hS' : ∀ n ∈ d0.weights Tryz.prog 22, n ≤ reachBytes := fun n hn => by
    have := List.all_eq_true.1 hS n (by simp only [List.cons_append, DataW.weightsEach, List.mem_append]; exact .inl hn)
    simpa using this
  obtain ⟨a, len, cap, L, e, hl, hat, hm, hz⟩ := read_nodes (by simpa [Value.cells] using hf) hS'
  injection e with e1 e2 e3
  subst e1 e2 e3
  clear hA0
  refine (showPrograms_walk L W b1 len1 cap1 hl hat hm (tabs hL) (nodes_smallP hz) (nodes_plP hz)).mono fun e W' ⟨he, hF⟩ => ?_
  subst he
  have bel : Below W.heap.size W W' := hF.below (Nat.le_refl _) (by simp)
  exact ⟨_, rfl, _, _, _, [], _, [], hW', trodAll_mk1 (shut_bool Tryz.underlying4 _), trodAll_mk1 (Below.trod laidOut (by kernel_rfl) (of_decide_eq_true (by kernel_rfl)) k0 bel lt0), rfl, bel.frame _, fun h => by cases h⟩

set_option maxRecDepth 100000 in
theorem showPrograms_lifted (os : Os) (started : os.Started) (H : Type) (enc : TypeId × Value → H) :
    ReturnsInHanded {} Tryz.checked os 3 .any (fun w args => (Rows.showProgramsSpec.pre enc Tryz.prog Tryz.f3 Rows.showProgramsRow.domain false w args ∧ laidMetH Tryz.prog laidL w) ∧ sizedMet enc Tryz.prog Tryz.f3 (OpenSpec.ofChange Rows.showProgramsSpec) false w args)
      (Rows.showProgramsSpec.post enc Tryz.prog Tryz.f3 false true false false) := by
  refine returnsInHanded_of_change_and (C := Tryz.checked) (X := fun w _ => laidMetH Tryz.prog laidL w) (fun _ _ _ hh h => h.of_heap hh) own started (by kernel_rfl) Tryz.func3
    (ChangeSpec.witness_shaped (enc := enc) (C := Tryz.checked) (os := os) (X := fun w _ => laidMetH Tryz.prog laidL w) false (wit os) #[.slice none 0 0] 8 (World.laidAll_os _ _ _)
      (wit_shaped os) (by kernel_rfl) (by kernel_rfl) (by kernel_rfl)
      (by rw [MakeChecks.laidMetH_plain _ _ _ (by kernel_rfl)]; exact laidMet_laidAll _ (by kernel_rfl) (by kernel_rfl))) ?_
  intro W base args ds gs before hval hW _ hS hL _
  exact showPrograms_contract H enc W base args ds gs before hval hW hS hL

theorem showPrograms_said : Rows.ShowProgramsSaid :=
  OpenClaim.holds_of_wide 3 Tryz.f3 rfl rfl rfl rfl rfl rfl rfl ⟨rfl, rfl, rfl, rfl, rfl⟩ rfl rfl rfl rfl rfl (by kernel_rfl) Tryz.func3 (by kernel_rfl)
    (of_decide_eq_true (by kernel_rfl)) (by unfold Func.isWrapper; first | (rw [if_pos (by decide +kernel)]; kernel_rfl) | (rw [if_neg (by decide +kernel)]; exact ⟨rfl, rfl⟩))
    (fun os started H enc _ => showPrograms_lifted os started H enc)

theorem showPrograms_plain (f : FuncId) (fn : Func) (hf : Tryz.pinned.checked.prog.funcNamed Rows.showProgramsRow.func = some f) (hfn : Tryz.pinned.checked.prog.funcs[f]? = some fn) :
    true = Tryz.pinned.checked.prog.looks [] ∧ ∀ (j : Nat) t, fn.params[j]? = some t → Tryz.pinned.checked.prog.wantsStandIn t = false := by
  obtain rfl : f = 3 := Option.some.inj ((show Tryz.prog.funcNamed Rows.showProgramsRow.func = some 3 by kernel_rfl).symm.trans hf) |>.symm
  obtain rfl : fn = Tryz.f3 := (Option.some.inj (Tryz.func3.symm.trans hfn)).symm
  refine ⟨by kernel_rfl, fun j t ht => ?_⟩
  rw [Tryz.params3] at ht
  have hm : t = 22 := by simpa using Array.mem_of_getElem? ht
  subst hm
  exact (show Tryz.prog.wantsStandIn 22 = false by kernel_rfl)

/-- The card. -/
theorem showPrograms_card : Rows.ShowProgramsCardSaid :=
  Claim7.holds_tied_plain_at .later [] _ _ _ _ showPrograms_said (fun _ h => by cases h) (by kernel_rfl) (fun _ h => by cases h) showPrograms_row_tie rfl ⟨rfl, rfl⟩ (by kernel_rfl) rfl showPrograms_plain (by kernel_rfl)
end Go.Proofs.YtnebhkglpggnlaaGreatDoor
