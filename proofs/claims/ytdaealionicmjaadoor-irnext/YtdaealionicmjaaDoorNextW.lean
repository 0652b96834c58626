/-
  Where any code may go on behind any place; condition: the tables lie as the program's text lays them.
-/
import Derived.Test.YtdaealionicmjaaDoorIrY
import Derived.Test.YtdaealionicmjaaDoorIrL
namespace Go.Proofs.YtdaealionicmjaaDoor
open Go.RowKit
set_option linter.unusedVariables false
set_option linter.unusedSimpArgs false

theorem one_fu (W : World) (f : Fu) (B : Nat) (hf : FuOk B W f) (hB : B ≤ W.heap.size) : FAt (W.alloc (.cells f.arr 34)).heap.size (W.alloc (.cells f.arr 34)) (some ⟨W.heap.size, 0, none⟩) [f] := by
  intro i g hg
  have hb := heap_alloc_new W (.cells f.arr 34)
  have f1 : Fr [] W (W.alloc (.cells f.arr 34)) := (Fr.refl _ _).alloc _
  match i, hg with
  | 0, hg =>
    simp at hg
    subst hg
    refine ⟨W.heap.size, 0, rfl, by simp, at_cells hb 0 rfl, at_cells hb 1 rfl, at_cells hb 2 rfl, at_cells hb 3 rfl, ?_⟩
    have hk := hf.fr f1 (by simp)
    refine ⟨fun j x hx => ?_, hk.nl, hk.kl, hk.kc, hk.kn⟩
    obtain ⟨b, o, e, hlt, hc⟩ := hk.k j x hx
    refine ⟨b, o, e, by simp; omega, hc.c0, hc.c1, hc.c2, hc.c3, hc.c4, hc.c5, ⟨hc.ok.k.up (by simp; omega), hc.ok.kl, hc.ok.kc, hc.ok.kn⟩⟩
theorem ksEq_refl' (l : List Int) : ksEq l l = true := by simp [ksEq]
theorem dd2_len (l : List Int) : (dd2 l).length ≤ l.length := by
  unfold dd2
  split
  · split <;> simp
  · exact Nat.le_refl _
theorem nextL_len (L : List In) (z : Int) : (nextL L z).length ≤ 2 := by
  unfold nextL nextC
  have h1 : ∀ (n : Nat) (l : List Int), l.length ≤ 2 → (dd2 (srt2 (keepN n l))).length ≤ 2 := fun n l hl => by
    have := dd2_len (srt2 (keepN n l))
    rw [srt2_len] at this
    have := keepN_len n l
    omega
  split
  · simp
  · split
    · exact h1 _ _ (by simp)
    · split
      · exact h1 _ _ (by simp)
      · split
        · simp
        · exact h1 _ _ (by simp)

set_option maxRecDepth 100000 in
set_option maxHeartbeats 4000000 in
theorem irNext_walk (f : Fu) (w : World) (hf : FuOk w.heap.size w f) (hwk : ∀ z ∈ f.code, wfI z.k) (z : Int) (T : Tabs w) :
    Calls Tryd.prog 6 #[.agg f.arr, .int .i64 z] w fun e w' => e = .returned (.bool true) ∧ Fr [] w w' := by
  have F0 : Fr [] w (w.alloc (.cells f.arr 34)) := (Fr.refl _ _).alloc _
  have bx : (w.alloc (.cells f.arr 34)).heap[w.heap.size]? = some (.cells f.arr 34 (0, 0)) := heap_alloc_new w _
  have HX : Hid (FuOk w.heap.size (w.alloc (.cells f.arr 34)) f) := hf.fr F0 (by simp)
  have HT : Hid (Tabs (w.alloc (.cells f.arr 34))) := T.fr F0 (by simp)
  have CA := awake_any _ HT.out
  have HF : Hid (Fr [] w (w.alloc (.cells f.arr 34))) := F0
  clear hf T F0 hwk
  go_enter Tryd.func6, Tryd.ntmps6
  unfold Fu.arr at CA bx HX HT HF ⊢
  go_wp2_with fail
  with_reducible (refine CA.mono ?_)
  rintro e W1 ⟨rfl, f1⟩
  have B1 := (f1.block _ (Array.getElem?_eq_some_iff.1 bx).1 (by simp)).trans bx
  have G1 : Hid (Fr [] w W1) := HF.out.trans f1
  have X1 : FuOk w.heap.size W1 f := HX.out.fr f1 (by simp)
  have T1 : Tabs W1 := HT.out.fr f1 (by simp)
  have hwW : w.heap.size ≤ W1.heap.size := G1.out.size
  have p0 : W1.cell? ⟨w.heap.size, 0, none⟩ = some (.string f.name) := at_cells B1 0 rfl
  have p1 : W1.cell? ⟨w.heap.size, 1, none⟩ = some (.int .i64 f.ps) := at_cells B1 1 rfl
  have p2 : W1.cell? ⟨w.heap.size, 2, none⟩ = some (.int .i64 f.rs) := at_cells B1 2 rfl
  have p3 : W1.cell? ⟨w.heap.size, 3, none⟩ = some (.slice f.ca f.code.length f.cc) := at_cells B1 3 rfl
  have C9 := few_some _ [f] (W1.alloc (.cells f.arr 34)) (some ⟨W1.heap.size, 0, none⟩) 1 1 0 0 rfl (one_fu W1 f _ X1 hwW) (by omega)
  have HA1 : Hid (Fr [] W1 (W1.alloc (.cells f.arr 34))) := (Fr.refl _ _).alloc _
  unfold Fu.arr at C9 HA1
  clear CA f1 bx HX HT HF
  go_wp2_with fail
  with_reducible (refine C9.mono ?_)
  rintro e W2 ⟨⟨bv, rfl⟩, f2⟩
  have G2 : Fr [] W1 W2 := HA1.out.trans f2
  have B2 := (G2.block _ (Array.getElem?_eq_some_iff.1 B1).1 (by simp)).trans B1
  have X2 : FuOk w.heap.size W2 f := X1.fr G2 (by simp)
  have HG : Hid (Fr [] w W2) := G1.out.trans G2
  have hw2 : w.heap.size ≤ W2.heap.size := HG.out.size
  clear C9 HA1 f2 G2 B1 X1 T1 G1 p0 p1 p2 p3 hwW
  cases bv with
  | false =>
    go_wp2
    go_ret
    exact ⟨rfl, HG.out⟩
  | true =>
    have C19 := fun w' (f' : Fr [] W2 w') => next_any w.heap.size f z w' (X2.fr f' (by simp)) (Nat.le_trans hw2 f'.size)
    have C20 := fun w' (f' : Fr [] W2 w') => rnext_any w.heap.size f z w' (X2.fr f' (by simp)) (Nat.le_trans hw2 f'.size)
    rw [rnext_same] at C20
    have hRL := nextL_len f.code z
    generalize nextL f.code z = RR at *
    have C14 := fun (w' : World) (a b : Option Addr) (ac bc : Nat) (ha : KAt w'.heap.size w' a RR) (hb : KAt w'.heap.size w' b RR) => ints_any w'.heap.size w' RR RR a b RR.length RR.length ac bc rfl rfl (by unfold maxLen; omega) (by unfold maxLen; omega) ha hb
    rw [ksEq_refl'] at C14
    have m0 : ∀ w', Fr [] W2 w' → w'.cell? ⟨w.heap.size, 0, none⟩ = some (.string f.name) := fun w' f => f.cell1 (at_cells B2 0 rfl) (by simp)
    have m1 : ∀ w', Fr [] W2 w' → w'.cell? ⟨w.heap.size, 1, none⟩ = some (.int .i64 f.ps) := fun w' f => f.cell1 (at_cells B2 1 rfl) (by simp)
    have m2 : ∀ w', Fr [] W2 w' → w'.cell? ⟨w.heap.size, 2, none⟩ = some (.int .i64 f.rs) := fun w' f => f.cell1 (at_cells B2 2 rfl) (by simp)
    have m3 : ∀ w', Fr [] W2 w' → w'.cell? ⟨w.heap.size, 3, none⟩ = some (.slice f.ca f.code.length f.cc) := fun w' f => f.cell1 (at_cells B2 3 rfl) (by simp)
    unfold Fu.arr at C19 C20
    have RF : Fr [] W2 W2 := Fr.refl _ _
    have HD : ∀ w' : World, Fr [] W2 w' → Fr [] W2 w'.drew := fun w' h => h.drew
    clear X2 B2 hRL
    go_wp2_with fail
    go_region_held3 (fun w' : World => Fr [] W2 w')
      (with_reducible (first | assumption | exact HD _ (by assumption)))
      (first
        | (go_at_call 19; with_reducible (refine (C19 _ (by assumption)).mono ?_); rintro e w1 ⟨v1, rfl, ho1, f1⟩; obtain ⟨va, vc, rfl, _, _⟩ := ho1.slice; have KA : ∀ w', Fr [] w1 w' → KAt w'.heap.size w' va RR := fun w' f => (ho1.kat.fr f (by simp)).up f.size; have F1 := Fr.trans (by assumption) f1)
        | (go_at_call 20; with_reducible (refine (C20 _ (by assumption)).mono ?_); rintro e w2 ⟨v2, rfl, ho2, f2⟩; obtain ⟨ua, uc, rfl, _, _⟩ := ho2.slice; have KB : ∀ w', Fr [] w2 w' → KAt w'.heap.size w' ua RR := fun w' f => (ho2.kat.fr f (by simp)).up f.size; have F2 := Fr.trans (by assumption) f2)
        | (go_at_call 14; with_reducible (refine (C14 _ _ _ _ _ (KA _ (by first | exact Fr.refl _ _ | assumption)) (KB _ (by first | exact Fr.refl _ _ | assumption))).mono ?_); rintro e w3 ⟨rfl, f3⟩; have F3 := Fr.trans (by assumption) f3))
    all_goals
      have HGG : Hid (Fr [] w _) := HG.out.trans F3
      clear C14 C19 C20 m0 m1 m2 m3 HD KA KB ho1 ho2
      go_wp2
      go_ret
      exact ⟨rfl, HGG.out⟩
end Go.Proofs.YtdaealionicmjaaDoor
