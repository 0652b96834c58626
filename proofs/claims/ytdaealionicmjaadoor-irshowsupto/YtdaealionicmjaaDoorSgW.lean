/-
  What the row's list gives, and whether a function's code is shown by the program as by the document; conditions: the tables lie as their texts lay them, the function is not too much.
-/
import Derived.Test.YtdaealionicmjaaDoorSgE
import Derived.Test.YtdaealionicmjaaDoorBlw
import Derived.Test.YtdaealionicmjaaDoorIrY
namespace Go.Proofs.YtdaealionicmjaaDoor
open Go.ChangeShapes Go.WideShapes Go.ChangeAt Go.RowKit Go.Deep
set_option linter.unusedVariables false
set_option linter.unusedSimpArgs false
set_option maxRecDepth 100000

def laidS : List (String × DataW Unit) := Rows.irShowsUptoRow.laid
def nmB : String := ((laidS.map Prod.fst)[0]?).getD ""
def nmC : String := ((laidS.map Prod.fst)[1]?).getD ""
def nmN : String := ((laidS.map Prod.fst)[3]?).getD ""
theorem gC : Tryd.prog.globalNamed nmC = some 7 := by kernel_rfl
theorem gN : Tryd.prog.globalNamed nmN = some 0 := by kernel_rfl
theorem gNT : (Tryd.prog.globals[0]?).map (·.type) = some 61 := by kernel_rfl
theorem gPowT : (Tryd.prog.globals[4]?).map (·.type) = some 104 := by kernel_rfl
theorem under104 : Tryd.prog.underlying 104 = some (.array 20 93) := by kernel_rfl
theorem under93 : Tryd.prog.underlying 93 = some (.int .u64) := by kernel_rfl
theorem cells104 : Tryd.prog.cellsOf 104 = 20 := by kernel_rfl
theorem cells93 : Tryd.prog.cellsOf 93 = 1 := by kernel_rfl
/-- The numbers of a table, as the row spells them. -/
def numsOf : DataW Unit → List Int
  | .agg l => l.map fun | .lit (.int _ n) => n | _ => 0
  | _ => []
def bitsA : List Int := numsOf Rows.laid_math_bits_deBruijn32tab
def bitsB : List Int := numsOf Rows.laid_math_bits_deBruijn64tab
theorem laid_listS : laidS = [(nmB, Lib.tabData .u8 bitsA), (nmC, Lib.tabData .u8 bitsB), (pw10, Lib.tabData .u64 Lib.pow10Tab), (nmN, strData namesT), (nmF, strData fieldsT), (nmR, strData readsT), (nmW, strData writesT)] := by kernel_rfl
theorem tabsS {W : World} (h : laidMetH Tryd.prog laidS W) : TS W := by
  have h' : laidMet Tryd.prog laidS W := h
  rw [laid_listS] at h'
  have hP := Lib.tabIs_of_head gPow gPowT under104 under93 cells93 cells104 h'.tail.tail
  have t0 := tab_of gN gNT rfl h'.tail.tail.tail
  have t1 := tab_of gF gFT rfl h'.tail.tail.tail.tail
  have t2 := tab_of gR gRT rfl h'.tail.tail.tail.tail.tail
  have t3 := tab_of gW gWT rfl h'.tail.tail.tail.tail.tail.tail
  have hp := hP.cell gPow 0 (by decide)
  exact ⟨t0, ⟨t1, t2, t3, World.block_lt_of_cell? W _ (t3.cell 0 (by decide))⟩, ⟨hP, World.block_lt_of_cell? W _ hp⟩⟩
/-- A world for the witness. -/
def nums (k : IntKind) (zs : List Int) : Array Value := (zs.map (Value.int k)).toArray
noncomputable def laidWS (w : World) : World :=
  { w with heap := ((((((w.heap.modify 0 (lay (strs namesT))).modify 1 (lay (strs fieldsT))).modify 2 (lay (strs readsT))).modify 3 (lay (strs writesT))).modify 4 (lay (nums .u64 Lib.pow10Tab))).modify 6 (lay (nums .u8 bitsA))).modify 7 (lay (nums .u8 bitsB)) }

theorem one_fuS (W : World) (f : Fu) (B : Nat) (hf : FuOk B W f) (hB : B ≤ W.heap.size) : FAt (W.alloc (.cells f.arr 34)).heap.size (W.alloc (.cells f.arr 34)) (some ⟨W.heap.size, 0, none⟩) [f] := by
  intro i g hg
  have hb := heap_alloc_new W (.cells f.arr 34)
  have f1 : Fr [] W (W.alloc (.cells f.arr 34)) := (Fr.refl _ _).alloc _
  match i, hg with
  | 0, hg =>
    simp at hg
    subst hg
    refine ⟨W.heap.size, 0, rfl, by simp, at_cells hb 0 rfl, at_cells hb 1 rfl, at_cells hb 2 rfl, at_cells hb 3 rfl, ?_⟩
    have hk := hf.fr f1 (by simp)
    refine ⟨fun j x hx => ?_, hk.nl, hk.kl, hk.kc, hk.kn⟩
    obtain ⟨b, o, e, hlt, hc⟩ := hk.k j x hx
    refine ⟨b, o, e, by simp; omega, hc.c0, hc.c1, hc.c2, hc.c3, hc.c4, hc.c5, ⟨hc.ok.k.up (by simp; omega), hc.ok.kl, hc.ok.kc, hc.ok.kn⟩⟩

set_option maxRecDepth 100000 in
set_option maxHeartbeats 8000000 in
theorem irShows_walk (f : Fu) (w : World) (hf : FuOk w.heap.size w f) (hw : WfFu f) (hc : costF f ≤ 1048576) (T : TS w) :
    Calls Tryd.prog 4 #[.agg f.arr] w fun e w' => e = .returned (.bool true) ∧ Fr [] w w' := by
  have F0 : Fr [] w (w.alloc (.cells f.arr 34)) := (Fr.refl _ _).alloc _
  have ba := heap_alloc_new w (.cells f.arr 34)
  have CA := awake_any _ (T.fr F0 (by simp)).t
  have HF0 := hidS F0
  have HT : Hid (∀ w', Fr [] w w' → TS w') := fun w' h => T.fr h (by simp)
  have HO : Hid (∀ w', Fr [] w w' → FuOk w.heap.size w' f) := fun w' h => hf.fr h (by simp)
  have HW := hidS hw
  have HC := hidS hc
  clear F0 T hf hw hc
  unfold Fu.arr at *
  go_enter Tryd.func4, Tryd.ntmps4
  go_wp2_with fail
  with_reducible (refine CA.mono ?_)
  rintro e W1 ⟨rfl, f1⟩
  have B1 := (f1.block _ (Array.getElem?_eq_some_iff.1 ba).1 (by simp)).trans ba
  have G1 := hidS (HF0.out.trans f1)
  have p0 := at_cells B1 0 rfl
  have p1 := at_cells B1 1 rfl
  have p2 := at_cells B1 2 rfl
  have p3 := at_cells B1 3 rfl
  have hwW : w.heap.size ≤ W1.heap.size := G1.out.size
  have C9 := few_some _ [f] (W1.alloc (.cells f.arr 34)) (some ⟨W1.heap.size, 0, none⟩) 1 1 0 0 rfl (one_fuS W1 f _ (HO.out _ G1.out) hwW) (by omega)
  have HA1 : Hid (Fr [] W1 (W1.alloc (.cells f.arr 34))) := (Fr.refl _ _).alloc _
  unfold Fu.arr at C9 HA1
  clear CA f1 ba HF0
  go_wp2_with fail
  with_reducible (refine C9.mono ?_)
  rintro e W2 ⟨⟨bv, rfl⟩, f2⟩
  have G2 : Fr [] W1 W2 := HA1.out.trans f2
  have B2 := (G2.block _ (Array.getElem?_eq_some_iff.1 B1).1 (by simp)).trans B1
  have HG : Hid (Fr [] w W2) := G1.out.trans G2
  clear C9 HA1 f2 G2 B1 G1 p0 p1 p2 p3 hwW
  cases bv with
  | false =>
    go_wp2
    go_ret
    exact ⟨rfl, HG.out⟩
  | true =>
    have C12 := fun w' (h : Fr [] W2 w') => show_any (HO.out _ (HG.out.trans h)) (Nat.le_trans HG.out.size h.size) HW.out (HT.out _ (HG.out.trans h)) HC.out
    have C13 := fun w' (h : Fr [] W2 w') => rshow_any (HO.out _ (HG.out.trans h)) (Nat.le_trans HG.out.size h.size) HW.out (HT.out _ (HG.out.trans h)).p HC.out
    unfold Fu.arr at C12 C13
    generalize txt (showL f) = S at *
    have veq : (S.toList == S.toList) = true := by simp
    have m0 : ∀ w', Fr [] W2 w' → w'.cell? ⟨w.heap.size, 0, none⟩ = some (.string f.name) := fun w' h => h.cell1 (at_cells B2 0 rfl) (by simp)
    have m1 : ∀ w', Fr [] W2 w' → w'.cell? ⟨w.heap.size, 1, none⟩ = some (.int .i64 f.ps) := fun w' h => h.cell1 (at_cells B2 1 rfl) (by simp)
    have m2 : ∀ w', Fr [] W2 w' → w'.cell? ⟨w.heap.size, 2, none⟩ = some (.int .i64 f.rs) := fun w' h => h.cell1 (at_cells B2 2 rfl) (by simp)
    have m3 : ∀ w', Fr [] W2 w' → w'.cell? ⟨w.heap.size, 3, none⟩ = some (.slice f.ca f.code.length f.cc) := fun w' h => h.cell1 (at_cells B2 3 rfl) (by simp)
    have RF : Fr [] W2 W2 := Fr.refl _ _
    have HD : ∀ w' : World, Fr [] W2 w' → Fr [] W2 w'.drew := fun w' h => h.drew
    clear B2 HT HO
    go_wp2_with fail
    go_region_held3 (fun w' : World => Fr [] W2 w')
      (with_reducible (first | assumption | exact HD _ (by assumption)))
      (first
        | (go_at_call 12; with_reducible (refine (C12 _ (by assumption)).mono ?_); rintro e w3 ⟨rfl, f3⟩; have F3 : Fr [] W2 w3 := Fr.trans (by assumption) f3)
        | (go_at_call 13; with_reducible (refine (C13 _ (by assumption)).mono ?_); rintro e w3 ⟨rfl, f3⟩; have F3 : Fr [] W2 w3 := Fr.trans (by assumption) f3))
    all_goals
      have HGG : Hid (Fr [] w _) := HG.out.trans (by assumption)
      clear C12 C13 m0 m1 m2 m3 HD
      go_wp2
      go_ret
      exact ⟨rfl, HGG.out⟩
end Go.Proofs.YtdaealionicmjaaDoor
