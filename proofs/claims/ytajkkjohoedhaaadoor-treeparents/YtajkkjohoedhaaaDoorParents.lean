/-
  Whose kid each node of any tree is, is as the document says, for every list; condition: none but the tables as the program lays them.
-/
import Derived.Test.YtajkkjohoedhaaaDoorTreeV
import Derived.Test.YtajkkjohoedhaaaDoorTreeP
namespace Go.Proofs.YtajkkjohoedhaaaDoor
open Go.ChangeMaps Go.ChangeShapes Go.WideShapes Go.ChangeAt Go.RowKit
set_option linter.unusedVariables false

set_option maxRecDepth 100000 in
set_option maxHeartbeats 1000000 in
theorem treeParents_walk (L : List Nd) (w : World) (a : Option Addr) (len cap : Nat) (hlen : L.length = len) (hL : NAt w.heap.size w a L) (hm : len ≤ 2600000000000) (TT : Tabs w) :
    Calls Tryd.prog 8 #[.slice a len cap] w fun e w' => e = .returned (.bool true) ∧ Fr [] w w' := by
  go_enter Tryd.func8, Tryd.ntmps8
  go_wp2_with fail
  refine (awake_any w TT).mono ?_
  rintro e w1 ⟨rfl, f1⟩
  go_wp2_with fail
  refine (few_any w.heap.size L w1 a len cap hlen (hL.fr f1 (by simp)) hm f1.size).mono ?_
  rintro e w2 ⟨⟨v, rfl⟩, f2⟩
  have F2 := f1.trans f2
  cases v with
  | false =>
    go_wp2
    go_ret
    exact ⟨rfl, F2⟩
  | true =>
    have C1 := parents_any w.heap.size L w2 a len cap hlen (hL.fr F2 (by simp)) hm F2.size (TT.fr F2 (by simp))
    have C2 := fun w3 (f : Fr [] w w3) => rparents_any w.heap.size L w3 a len cap hlen (hL.fr f (by simp)) hm f.size
    by_cases h0 : (checkL L).2 = 0
    · have HUL : Hid ((upL L len).length = len) := by unfold Hid; rw [upL_length]; exact hlen
      go_wp2_with fail
      refine C1.mono ?_
      rintro e w3 ⟨⟨hp, _⟩, f3⟩
      obtain ⟨g, rfl, hg, hI⟩ := hp h0
      have F3 := F2.trans f3
      go_wp2_with fail
      refine (C2 w3 F3).mono ?_
      rintro e w4 ⟨⟨hq, _⟩, f4⟩
      obtain ⟨g2, rfl, hg2, hI2⟩ := hq h0
      have F4 := F3.trans f4
      have hI4 := hI.fr f4 (by simp)
      clear hp hq h0 C1 C2 hI
      generalize upL L len = P at *
      go_wp2
      go_loopw [22] (fun i wr => ∃ p : Nat, p ≤ len ∧ i = .int .i64 p ∧ Fr [] w4 wr) (fun i _ => len - (intOf i).toNat)
      case atStart => exact ⟨0, Nat.zero_le _, rfl, Fr.refl _ _⟩
      case round =>
        obtain ⟨p, hp, rfl, fw⟩ := hrel
        by_cases hlt : p < len
        · have hpl : p < P.length := by rw [HUL.out]; exact hlt
          have c1 := (hI4.fr fw (by simp)).cell (i := p) (v := P[p]'hpl) (List.getElem?_eq_getElem hpl)
          have c2 := (hI2.fr fw (by simp)).cell (i := p) (v := P[p]'hpl) (List.getElem?_eq_getElem hpl)
          generalize P[p]'hpl = v at c1 c2
          clear hpl
          go_wp2
          go_quiet (fail)
          go_wp2
          go_roundw
          case rel => exact ⟨p + 1, hlt, by go_num, fw.drewN _⟩
          case measure => simp [intOf]; omega
        · go_wp2
          go_ret
          exact ⟨rfl, F4.trans fw⟩
    · go_wp2_with fail
      refine C1.mono ?_
      rintro e w3 ⟨⟨_, hp⟩, f3⟩
      obtain rfl := hp h0
      have F3 := F2.trans f3
      go_wp2_with fail
      refine (C2 w3 F3).mono ?_
      rintro e w4 ⟨⟨_, hq⟩, f4⟩
      obtain rfl := hq h0
      have F4 := F3.trans f4
      clear hp hq h0 C1 C2
      go_wp2
      go_loopw [22] (fun i wr => i = .int .i64 0 ∧ wr = w4) (fun i _ => 0)
      case atStart => exact ⟨rfl, rfl⟩
      case round =>
        obtain ⟨rfl, rfl⟩ := hrel
        go_wp2
        go_ret
        exact ⟨rfl, F4⟩

/-- What the walk gives, for every argument and every world that holds the tables. -/
theorem treeParents_contract (H : Type) (enc : TypeId × Value → H) (W : World) (base : Nat) (args : Array Value) (ds gs : List (DataW H)) (before : List MemPlace)
    (hval : ∀ (j : Nat) t v, Tryd.f8.params[j]? = some t → args[j]? = some v → Value.okWide Tryd.prog W .any base t v)
    (hW : DataW.Whole enc Tryd.prog Tryd.f8.params.toList Rows.treeParentsSpec.vars false W args.toList ds gs before) (hS : (DataW.weightsEach Tryd.prog (Tryd.f8.params.toList ++ Rows.treeParentsSpec.plain.varTypes Tryd.prog) (ds ++ gs)).all (· ≤ reachBytes) = true) (hL : laidMetH Tryd.prog laidL W) :
    Calls Tryd.prog 8 args W fun e W' => ∃ v, e = .returned v ∧ Rows.treeParentsSpec.post enc Tryd.prog Tryd.f8 false true false false W args v W' := by
  have hW' := hW
  obtain ⟨p, q, hA0, hV, rfl, hfz, hnd⟩ := hW
  have hA : DataW.TrodAll enc Tryd.prog W 0 (fun _ => true) true Tryd.f8.params.toList args.toList ds p := hA0
  rw [Tryd.params8] at hA hval hS
  obtain ⟨v0, vs0, d0, ds0, p0, q0, hargs, rfl, rfl, h0, r0⟩ := trodAll_cons hA
  obtain ⟨rfl, rfl, rfl⟩ := trodAll_nil r0
  obtain rfl : args = #[v0] := by cases args; simp_all
  obtain ⟨rfl, rfl⟩ := trodVars_none hV
  obtain ⟨b1, len1, cap1, rfl⟩ := okWide_slice Tryd.underlying22 (hval 0 22 v0 rfl rfl)
  have k0 := h0
  have lt0 : ∀ x ∈ p0, x.block < W.heap.size := by obtain ⟨m, hm⟩ := k0; exact DataW.trod_lt m _ _ _ hm
  obtain ⟨fuel, hf⟩ := h0
  have hS' : ∀ n ∈ d0.weights Tryd.prog 22, n ≤ reachBytes := fun n hn => by
    have := List.all_eq_true.1 hS n (by simp only [List.cons_append, DataW.weightsEach, List.mem_append]; exact .inl hn)
    simpa using this
  obtain ⟨a, len, cap, L, e, hl, hat, hm, _⟩ := read_nodes (by simpa [Value.cells] using hf) hS'
  injection e with e1 e2 e3
  subst e1 e2 e3
  clear hA0
  refine (treeParents_walk L W b1 len1 cap1 hl hat hm (tabs hL)).mono fun e W' ⟨he, hF⟩ => ?_
  subst he
  have bel : Below W.heap.size W W' := hF.below (Nat.le_refl _) (by simp)
  exact ⟨_, rfl, _, _, _, [], _, [], hW', trodAll_mk1 (shut_bool Tryd.underlying4 _), trodAll_mk1 (Below.trod laidOut (by kernel_rfl) (of_decide_eq_true (by kernel_rfl)) k0 bel lt0), rfl, bel.frame _, fun h => by cases h⟩

set_option maxRecDepth 100000 in
theorem treeParents_lifted (os : Os) (started : os.Started) (H : Type) (enc : TypeId × Value → H) :
    ReturnsInHanded {} Tryd.checked os 8 .any (fun w args => (Rows.treeParentsSpec.pre enc Tryd.prog Tryd.f8 Rows.treeParentsRow.domain false w args ∧ laidMetH Tryd.prog laidL w) ∧ sizedMet enc Tryd.prog Tryd.f8 (OpenSpec.ofChange Rows.treeParentsSpec) false w args)
      (Rows.treeParentsSpec.post enc Tryd.prog Tryd.f8 false true false false) := by
  refine returnsInHanded_of_change_and (C := Tryd.checked) (X := fun w _ => laidMetH Tryd.prog laidL w) (fun _ _ _ hh h => h.of_heap hh) own started (by kernel_rfl) Tryd.func8
    (ChangeSpec.witness_shaped (enc := enc) (C := Tryd.checked) (os := os) (X := fun w _ => laidMetH Tryd.prog laidL w) false (wit os) #[.slice none 0 0] 8 (World.laidAll_os _ _ _)
      (wit_shaped os) (by kernel_rfl) (by kernel_rfl) (by kernel_rfl)
      (by rw [MakeChecks.laidMetH_plain _ _ _ (by kernel_rfl)]; exact laidMet_laidAll _ (by kernel_rfl) (by kernel_rfl))) ?_
  intro W base args ds gs before hval hW _ hS hL _
  exact treeParents_contract H enc W base args ds gs before hval hW hS hL

theorem treeParents_said : Rows.TreeParentsSaid :=
  OpenClaim.holds_of_wide 8 Tryd.f8 rfl rfl rfl rfl rfl rfl rfl ⟨rfl, rfl, rfl, rfl, rfl⟩ rfl rfl rfl rfl rfl (by kernel_rfl) Tryd.func8 (by kernel_rfl)
    (of_decide_eq_true (by kernel_rfl)) (by unfold Func.isWrapper; first | (rw [if_pos (by decide +kernel)]; kernel_rfl) | (rw [if_neg (by decide +kernel)]; exact ⟨rfl, rfl⟩))
    (fun os started H enc _ => treeParents_lifted os started H enc)

theorem treeParents_plain (f : FuncId) (fn : Func) (hf : Tryd.pinned.checked.prog.funcNamed Rows.treeParentsRow.func = some f) (hfn : Tryd.pinned.checked.prog.funcs[f]? = some fn) :
    false = Tryd.pinned.checked.prog.looks [] ∧ ∀ (j : Nat) t, fn.params[j]? = some t → Tryd.pinned.checked.prog.wantsStandIn t = false := by
  obtain rfl : f = 8 := Option.some.inj ((show Tryd.prog.funcNamed Rows.treeParentsRow.func = some 8 by kernel_rfl).symm.trans hf) |>.symm
  obtain rfl : fn = Tryd.f8 := (Option.some.inj (Tryd.func8.symm.trans hfn)).symm
  refine ⟨by kernel_rfl, fun j t ht => ?_⟩
  rw [Tryd.params8] at ht
  have hm : t = 22 := by simpa using Array.mem_of_getElem? ht
  subst hm
  exact (show Tryd.prog.wantsStandIn 22 = false by kernel_rfl)

/-- The card. -/
theorem treeParents_card : Rows.TreeParentsCardSaid :=
  Claim7.holds_tied_plain_at .later [] _ _ _ _ treeParents_said (fun _ h => by cases h) (by kernel_rfl) (fun _ h => by cases h) treeParents_row_tie rfl ⟨rfl, rfl⟩ (by kernel_rfl) rfl treeParents_plain (by kernel_rfl)
end Go.Proofs.YtajkkjohoedhaaaDoor
