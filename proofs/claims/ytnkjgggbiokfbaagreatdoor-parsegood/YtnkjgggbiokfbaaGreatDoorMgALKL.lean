/-
  What is read passes both checks, and every node stands where the document says; condition: none but the tables as the program lays them.
-/
import Derived.Lay
import Derived.LaidMore
import Derived.SevenTiedAt
import Derived.Stop.Joined
import Derived.SizedLaws
import Derived.Test.YtnkjgggbiokfbaaGreatDoorMgEIPN
import Derived.Test.YtnkjgggbiokfbaaGreatDoorMgOFDP
namespace Go.Proofs.YtnkjgggbiokfbaaGreatDoor
open Go.ChangeMaps Go.ChangeShapes Go.WideShapes Go.ChangeAt Go.RowKit
set_option linter.unusedVariables false

def laidG : List (String × DataW Unit) := Rows.parseGoodRow.laid
def nmC : String := ((laidG.map Prod.fst)[5]?).getD ""
theorem laidG_list : laidG = [(nmA, Lib.tabData .u8 bitsA), (nmD, Lib.tabData .u8 bitsB), (pw10, Lib.tabData .u64 Lib.pow10Tab), (nmK, Lib.tabData .u8 kindsZ), (nmS, strData signs), (nmC, Rows.laid_unicode_CaseRanges)] := by kernel_rfl

/-- What the row's list gives. -/
theorem tabsG {W : World} (h : laidMetH Tryz.prog laidG W) : Tabs W := by
  have h' : laidMet Tryz.prog laidG W := by rw [MakeChecks.laidMetH_plain _ _ _ (by kernel_rfl)] at h; exact h
  rw [laidG_list] at h'
  have hB := Lib.tabIs_of_head gB gBT under163 under5 cells5 cells163 h'.tail
  have hP := Lib.tabIs_of_head gPow gPowT under149 under105u cells105u cells149 h'.tail.tail
  have hk := Lib.tabIs_of_head gKinds gKindsT under124 under5 cells5 cells124 h'.tail.tail.tail
  have hs : W.var? Tryz.prog nmS = some (signs.map fun z => Value.string ⟨z.toArray⟩).toArray := by
    obtain ⟨ps, ⟨g', t', cs, fuel, p, q, hg', ht', hvar, hd, _, _⟩, _⟩ := h'.tail.tail.tail.tail
    obtain rfl := Option.some.inj (gSigns.symm.trans hg')
    obtain rfl := Option.some.inj (gSignsT.symm.trans ht')
    rw [hvar, ← cells_of_strs under126 under9s cells9 cells126 hd]
  have c0 : ∀ n, n < 128 → W.cell? ⟨0, n, none⟩ = some (.int .u8 (kindN n)) := fun n hn => by
    have := hk.cell gKinds n (by simpa [kindsZ] using hn)
    rw [this]
    simp [kindsZ, List.getD, hn]
  have c2 : ∀ n, n < 26 → W.cell? ⟨1, n, none⟩ = some (.string ⟨(signs.getD n []).toArray⟩) := fun n hn => by
    have := World.var?_cell gSigns hs n
    rw [this]
    have hl : signs.length = 26 := rfl
    have hn' : n < signs.length := by omega
    simp [List.getD, hn']
  have hb := hB.cell gB 0 (by decide)
  exact ⟨c0, c2, hP, World.block_lt_of_cell? W _ hb⟩

/-- Witnesses: the empty string. -/
noncomputable def witG (os : Os) : World := World.laidAll Tryz.prog os laidG
theorem witG_shaped (os : Os) : ((witG os).forCall (fun _ _ => 0) ⟨#[], #[.string ⟨#[]⟩], []⟩).Shaped Tryz.prog := World.shaped_of_ZipB (by kernel_rfl) (by kernel_rfl)

set_option maxRecDepth 100000 in
/-- What the walk gives, for every argument and every world that holds the tables. -/
theorem parseGood_contract (H : Type) (enc : TypeId × Value → H) (W : World) (base : Nat) (args : Array Value) (ds gs : List (DataW H)) (before : List MemPlace)
    (hval : ∀ (j : Nat) t v, Tryz.f4.params[j]? = some t → args[j]? = some v → Value.okWide Tryz.prog W .any base t v)
    (hW : DataW.Whole enc Tryz.prog Tryz.f4.params.toList Rows.parseGoodSpec.vars false W args.toList ds gs before) (hL : laidMetH Tryz.prog laidG W) :
    Calls Tryz.prog 4 args W fun e W' => ∃ v, e = .returned v ∧ Rows.parseGoodSpec.post enc Tryz.prog Tryz.f4 false true false false W args v W' := by
  have hW' := hW
  obtain ⟨p, q, hA0, hV, rfl, hfz, hnd⟩ := hW
  have hA : DataW.TrodAll enc Tryz.prog W 0 (fun _ => true) true Tryz.f4.params.toList args.toList ds p := hA0
  rw [Tryz.params4] at hA hval
  obtain ⟨v0, vs0, d0, ds0, p0, q0, hargs, rfl, rfl, h0, r0⟩ := trodAll_cons hA
  obtain ⟨rfl, rfl, rfl⟩ := trodAll_nil r0
  obtain rfl : args = #[v0] := by cases args; simp_all
  obtain ⟨rfl, rfl⟩ := trodVars_none hV
  obtain ⟨s0, rfl, rfl, rfl, w0⟩ := open_string Tryz.underlying9 (hval 0 9 v0 rfl rfl) h0
  clear hA0
  simp only [List.append_nil] at hW'
  refine (good_walk s0 W (tabsG hL)).mono fun e W' ⟨he, hF⟩ => ?_
  subst he
  exact ⟨_, rfl, _, _, _, [], [], [], hW', trodAll_cons_mk (shut_bool Tryz.underlying4 _) trodAll_mk0, (trodAll_cons_mk (shut_string Tryz.underlying9 w0) trodAll_mk0), rfl, fr_kept hF _, fun h => by cases h⟩

set_option maxRecDepth 100000 in
theorem parseGood_lifted (os : Os) (started : os.Started) (H : Type) (enc : TypeId × Value → H) :
    ReturnsInHanded {} Tryz.checked os 4 .any (fun w args => (Rows.parseGoodSpec.pre enc Tryz.prog Tryz.f4 Rows.parseGoodRow.domain false w args ∧ laidMetH Tryz.prog laidG w) ∧ sizedMet enc Tryz.prog Tryz.f4 (OpenSpec.ofChange Rows.parseGoodSpec) false w args)
      (Rows.parseGoodSpec.post enc Tryz.prog Tryz.f4 false true false false) := by
  refine returnsInHanded_of_change_and (C := Tryz.checked) (X := fun w _ => laidMetH Tryz.prog laidG w) (fun _ _ _ hh h => h.of_heap hh) own started (by kernel_rfl) Tryz.func4
    (ChangeSpec.witness_shaped (enc := enc) (C := Tryz.checked) (os := os) (X := fun w _ => laidMetH Tryz.prog laidG w) false (witG os) #[.string ⟨#[]⟩] 8 (World.laidAll_os _ _ _)
      (witG_shaped os) (by kernel_rfl) (by kernel_rfl) (by kernel_rfl)
      (by rw [MakeChecks.laidMetH_plain _ _ _ (by kernel_rfl)]; exact laidMet_laidAll _ (by kernel_rfl) (by kernel_rfl))) ?_
  intro W base args ds gs before hval hW _ hS hL _
  exact parseGood_contract H enc W base args ds gs before hval hW hL

theorem parseGood_said : Rows.ParseGoodSaid :=
  OpenClaim.holds_of_wide 4 Tryz.f4 rfl rfl rfl rfl rfl rfl rfl ⟨rfl, rfl, rfl, rfl, rfl⟩ rfl rfl rfl rfl rfl (by kernel_rfl) Tryz.func4 (by kernel_rfl)
    (of_decide_eq_true (by kernel_rfl)) (by unfold Func.isWrapper; first | (rw [if_pos (by decide +kernel)]; kernel_rfl) | (rw [if_neg (by decide +kernel)]; exact ⟨rfl, rfl⟩))
    (fun os started H enc _ => parseGood_lifted os started H enc)

theorem parseGood_plain (f : FuncId) (fn : Func) (hf : Tryz.pinned.checked.prog.funcNamed Rows.parseGoodRow.func = some f) (hfn : Tryz.pinned.checked.prog.funcs[f]? = some fn) :
    true = Tryz.pinned.checked.prog.looks [] ∧ ∀ (j : Nat) t, fn.params[j]? = some t → Tryz.pinned.checked.prog.wantsStandIn t = false := by
  obtain rfl : f = 4 := Option.some.inj ((show Tryz.prog.funcNamed Rows.parseGoodRow.func = some 4 by kernel_rfl).symm.trans hf) |>.symm
  obtain rfl : fn = Tryz.f4 := (Option.some.inj (Tryz.func4.symm.trans hfn)).symm
  refine ⟨by kernel_rfl, fun j t ht => ?_⟩
  rw [Tryz.params4] at ht
  have hm : t = 9 := by simpa using Array.mem_of_getElem? ht
  subst hm
  exact (show Tryz.prog.wantsStandIn 9 = false by kernel_rfl)

/-- The card. -/
theorem parseGood_card : Rows.ParseGoodCardSaid :=
  Claim7.holds_tied_plain_at .later [] _ _ _ _ parseGood_said (fun _ h => by cases h) (by kernel_rfl) (fun _ h => by cases h) parseGood_row_tie rfl ⟨rfl, rfl⟩ (by kernel_rfl) rfl parseGood_plain (by kernel_rfl)
end Go.Proofs.YtnkjgggbiokfbaaGreatDoor
