/-
  Whether any code is right, and where it is wrong, by the program and by the document; conditions: the tables lie as the program's text lays them, the code is not too much.
-/
import Derived.Test.YtdaealionicmjaaDoorChkF
import Derived.Test.YtdaealionicmjaaDoorChkQ
import Derived.Test.YtdaealionicmjaaDoorIrY
import Derived.Test.YtdaealionicmjaaDoorBlk
namespace Go.Proofs.YtdaealionicmjaaDoor
open Go.RowKit
set_option linter.unusedVariables false
set_option linter.unusedSimpArgs false

set_option maxRecDepth 100000 in
set_option maxHeartbeats 8000000 in
theorem irChecks_walk (F : List Fu) (w : World) (fa : Option Addr) (fcap : Nat) (fmn fmg : Int) (hf : FAt w.heap.size w fa F) (hok : FsOk F) (hlen : F.length ≤ 1048576) (hmg : fmg ≤ 9223372036854775807) (T : Tabs w) :
    Calls Tryd.prog 3 #[.agg #[.slice fa F.length fcap, .int .i64 fmn, .int .i64 fmg]] w fun e w' => e = .returned (.bool true) ∧ Fr [] w w' := by
  obtain ⟨fl, hfl⟩ : ∃ n, n = F.length := ⟨_, rfl⟩
  rw [← hfl] at hlen ⊢
  have HFL : Hid (F.length = fl) := hfl.symm
  clear hfl
  have F0 : Fr [] w (w.alloc (.cells #[.slice fa fl fcap, .int .i64 fmn, .int .i64 fmg] 24)) := (Fr.refl _ _).alloc _
  have ba := heap_alloc_new w (.cells #[.slice fa fl fcap, .int .i64 fmn, .int .i64 fmg] 24)
  have HT : Hid (∀ w', Fr [] w w' → Tabs w') := fun w' f => T.fr f (by simp)
  have CA := awake_any _ (HT.out _ F0)
  have HF := hidF F0
  have HC : Hid (∀ w', Fr [] w w' → CdOk w.heap.size w' F fa fl fmg) := fun w' f => ⟨hf.fr f (by simp), HFL.out, hok, by omega, hmg, T.len⟩
  clear hf T F0
  go_enter Tryd.func3, Tryd.ntmps3
  go_wp2_with fail
  with_reducible (refine CA.mono ?_)
  rintro e W1 ⟨rfl, f1⟩
  have B1 := (f1.block _ (Array.getElem?_eq_some_iff.1 ba).1 (by simp)).trans ba
  have G1 : Hid (Fr [] w W1) := HF.out.trans f1
  have p0 : W1.cell? ⟨w.heap.size, 0, none⟩ = some (.slice fa fl fcap) := at_cells B1 0 rfl
  have p1 : W1.cell? ⟨w.heap.size, 1, none⟩ = some (.int .i64 fmn) := at_cells B1 1 rfl
  have p2 : W1.cell? ⟨w.heap.size, 2, none⟩ = some (.int .i64 fmg) := at_cells B1 2 rfl
  have C9 := few_some _ F W1 fa fl fcap fmn fmg HFL.out (HC.out _ G1.out).at_ (by omega)
  clear CA f1 ba HF
  go_wp2_with fail
  with_reducible (refine C9.mono ?_)
  rintro e W2 ⟨⟨bv, rfl⟩, f2⟩
  have D1 := (f2.block _ (Array.getElem?_eq_some_iff.1 B1).1 (by simp)).trans B1
  have G2 : Hid (Fr [] w W2) := G1.out.trans f2
  clear C9 f2 B1 G1 p0 p1 p2
  cases bv with
  | false =>
    go_wp2
    go_ret
    exact ⟨rfl, G2.out⟩
  | true =>
    have p0 : W2.cell? ⟨w.heap.size, 0, none⟩ = some (.slice fa fl fcap) := at_cells D1 0 rfl
    have p1 : W2.cell? ⟨w.heap.size, 1, none⟩ = some (.int .i64 fmn) := at_cells D1 1 rfl
    have p2 : W2.cell? ⟨w.heap.size, 2, none⟩ = some (.int .i64 fmg) := at_cells D1 2 rfl
    have C10 := check_any fcap fmn (HC.out _ G2.out) (HT.out _ G2.out) G2.out.size
    rw [check_eq] at C10
    generalize hv : checkR F fmn fmg = o at *
    obtain ⟨o1, o2, o3⟩ := o
    unfold cEnd at C10
    go_wp2_with fail
    with_reducible (refine C10.mono ?_)
    rintro e W3 ⟨rfl, f3⟩
    have E1 := (f3.block _ (Array.getElem?_eq_some_iff.1 D1).1 (by simp)).trans D1
    have G3 : Hid (Fr [] w W3) := G2.out.trans f3
    clear C10 f3 p0 p1 p2 D1
    have p0 : W3.cell? ⟨w.heap.size, 0, none⟩ = some (.slice fa fl fcap) := at_cells E1 0 rfl
    have p1 : W3.cell? ⟨w.heap.size, 1, none⟩ = some (.int .i64 fmn) := at_cells E1 1 rfl
    have p2 : W3.cell? ⟨w.heap.size, 2, none⟩ = some (.int .i64 fmg) := at_cells E1 2 rfl
    have C11 := rcheck_any fcap fmn (HC.out _ G3.out) G3.out.size
    rw [hv] at C11
    unfold cEnd at C11
    clear hv
    go_wp2_with fail
    with_reducible (refine C11.mono ?_)
    rintro e W4 ⟨rfl, f4⟩
    have G4 : Hid (Fr [] w W4) := G3.out.trans f4
    clear C11 f4 p0 p1 p2 E1
    go_wp2
    go_ret
    exact ⟨rfl, G4.out⟩
end Go.Proofs.YtdaealionicmjaaDoor
