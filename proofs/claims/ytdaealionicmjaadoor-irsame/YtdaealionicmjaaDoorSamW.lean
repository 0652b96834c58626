/-
  Whether any code is alike to any other, by the program and by the document; condition: the tables lie as the program's text lays them.
-/
import Derived.Test.YtdaealionicmjaaDoorSamB
import Derived.Test.YtdaealionicmjaaDoorIrZ
namespace Go.Proofs.YtdaealionicmjaaDoor
open Go.RowKit
set_option linter.unusedVariables false
set_option linter.unusedSimpArgs false

set_option maxRecDepth 100000 in
set_option maxHeartbeats 8000000 in
theorem irSame_walk (F : List Fu) (w : World) (fa : Option Addr) (fcap : Nat) (fmn fmg : Int) (hf : FAt w.heap.size w fa F) (hfl0 : F.length ≤ 2600000000000 ∧ F.length ≤ fcap ∧ (fa = none → fcap = 0)) (G : List Fu) (ga : Option Addr) (gcap : Nat) (gmn gmg : Int) (hg : FAt w.heap.size w ga G) (hgl0 : G.length ≤ 2600000000000 ∧ G.length ≤ gcap ∧ (ga = none → gcap = 0)) (T : Tabs w) :
    Calls Tryd.prog 7 #[.agg #[.slice fa F.length fcap, .int .i64 fmn, .int .i64 fmg], .agg #[.slice ga G.length gcap, .int .i64 gmn, .int .i64 gmg]] w fun e w' => e = .returned (.bool true) ∧ Fr [] w w' := by
  have hF1 := hfl0.1
  have hG1 := hgl0.1
  obtain ⟨fl, hfl⟩ : ∃ n, n = F.length := ⟨_, rfl⟩
  obtain ⟨gl, hgl⟩ : ∃ n, n = G.length := ⟨_, rfl⟩
  rw [← hfl] at hF1 ⊢
  rw [← hgl] at hG1 ⊢
  have HFL : Hid (F.length = fl) := hfl.symm
  have HGL : Hid (G.length = gl) := hgl.symm
  clear hfl hgl hfl0 hgl0
  have F0 : Fr [] w ((w.alloc (.cells #[.slice fa fl fcap, .int .i64 fmn, .int .i64 fmg] 24)).alloc (.cells #[.slice ga gl gcap, .int .i64 gmn, .int .i64 gmg] 24)) := ((Fr.refl _ _).alloc _).alloc _
  have c1 := heap_alloc_new w (.cells #[.slice fa fl fcap, .int .i64 fmn, .int .i64 fmg] 24)
  have ba := (((Fr.refl [] (w.alloc (.cells #[.slice fa fl fcap, .int .i64 fmn, .int .i64 fmg] 24))).alloc (.cells #[.slice ga gl gcap, .int .i64 gmn, .int .i64 gmg] 24)).block _ (Array.getElem?_eq_some_iff.1 c1).1 (by simp)).trans c1
  have bb := blk2 w (.cells #[.slice fa fl fcap, .int .i64 fmn, .int .i64 fmg] 24) (.cells #[.slice ga gl gcap, .int .i64 gmn, .int .i64 gmg] 24)
  have HT : Hid (Tabs ((w.alloc (.cells #[.slice fa fl fcap, .int .i64 fmn, .int .i64 fmg] 24)).alloc (.cells #[.slice ga gl gcap, .int .i64 gmn, .int .i64 gmg] 24))) := T.fr F0 (by simp)
  have CA := awake_any _ HT.out
  have HF : Hid (Fr [] w ((w.alloc (.cells #[.slice fa fl fcap, .int .i64 fmn, .int .i64 fmg] 24)).alloc (.cells #[.slice ga gl gcap, .int .i64 gmn, .int .i64 gmg] 24))) := F0
  have HFA : Hid (∀ w', Fr [] w w' → FAt w.heap.size w' fa F) := fun w' f => hf.fr f (by simp)
  have HGA : Hid (∀ w', Fr [] w w' → FAt w.heap.size w' ga G) := fun w' f => hg.fr f (by simp)
  clear hf hg T F0 c1
  go_enter Tryd.func7, Tryd.ntmps7
  go_wp2_with fail
  with_reducible (refine CA.mono ?_)
  rintro e W1 ⟨rfl, f1⟩
  have B1 := (f1.block _ (Array.getElem?_eq_some_iff.1 ba).1 (by simp)).trans ba
  have B2 := (f1.block _ (Array.getElem?_eq_some_iff.1 bb).1 (by simp)).trans bb
  have G1 : Hid (Fr [] w W1) := HF.out.trans f1
  have p0 : W1.cell? ⟨w.heap.size, 0, none⟩ = some (.slice fa fl fcap) := at_cells B1 0 rfl
  have p1 : W1.cell? ⟨w.heap.size, 1, none⟩ = some (.int .i64 fmn) := at_cells B1 1 rfl
  have p2 : W1.cell? ⟨w.heap.size, 2, none⟩ = some (.int .i64 fmg) := at_cells B1 2 rfl
  have C9 := few_some _ F W1 fa fl fcap fmn fmg HFL.out (HFA.out _ G1.out) hF1
  clear CA f1 ba bb HT HF
  go_wp2_with fail
  with_reducible (refine C9.mono ?_)
  rintro e W2 ⟨⟨bv, rfl⟩, f2⟩
  have D1 := (f2.block _ (Array.getElem?_eq_some_iff.1 B1).1 (by simp)).trans B1
  have D2 := (f2.block _ (Array.getElem?_eq_some_iff.1 B2).1 (by simp)).trans B2
  have G2 : Hid (Fr [] w W2) := G1.out.trans f2
  clear C9 f2 B1 B2 G1 p0 p1 p2
  cases bv with
  | false =>
    go_wp2
    go_ret
    exact ⟨rfl, G2.out⟩
  | true =>
    have p0 : W2.cell? ⟨w.heap.size + 1, 0, none⟩ = some (.slice ga gl gcap) := at_cells D2 0 rfl
    have p1 : W2.cell? ⟨w.heap.size + 1, 1, none⟩ = some (.int .i64 gmn) := at_cells D2 1 rfl
    have p2 : W2.cell? ⟨w.heap.size + 1, 2, none⟩ = some (.int .i64 gmg) := at_cells D2 2 rfl
    have C9 := few_some _ G W2 ga gl gcap gmn gmg HGL.out (HGA.out _ G2.out) hG1
    go_wp2_with fail
    with_reducible (refine C9.mono ?_)
    rintro e W3 ⟨⟨bv, rfl⟩, f3⟩
    have E1 := (f3.block _ (Array.getElem?_eq_some_iff.1 D1).1 (by simp)).trans D1
    have E2 := (f3.block _ (Array.getElem?_eq_some_iff.1 D2).1 (by simp)).trans D2
    have G3 : Hid (Fr [] w W3) := G2.out.trans f3
    clear C9 f3 D1 D2 G2 p0 p1 p2
    cases bv with
    | false =>
      go_wp2
      go_ret
      exact ⟨rfl, G3.out⟩
    | true =>
      have KF : ∀ w', Fr [] W3 w' → FAt w.heap.size w' fa F := fun w' f => HFA.out _ (G3.out.trans f)
      have KG : ∀ w', Fr [] W3 w' → FAt w.heap.size w' ga G := fun w' f => HGA.out _ (G3.out.trans f)
      have CFG := fun w' (f : Fr [] W3 w') => same_any w.heap.size w' F G fa ga fl gl fcap gcap fmn fmg gmn gmg HFL.out HGL.out (by omega) (by omega) (KF _ f) (KG _ f)
      have CGF := fun w' (f : Fr [] W3 w') => same_any w.heap.size w' G F ga fa gl fl gcap fcap gmn gmg fmn fmg HGL.out HFL.out (by omega) (by omega) (KG _ f) (KF _ f)
      have CFF := fun w' (f : Fr [] W3 w') => same_any w.heap.size w' F F fa fa fl fl fcap fcap fmn fmg fmn fmg HFL.out HFL.out (by omega) (by omega) (KF _ f) (KF _ f)
      have CR := fun w' (f : Fr [] W3 w') => rsame_any w.heap.size w' F G fa ga fl gl fcap gcap fmn fmg gmn gmg HFL.out HGL.out (by omega) (by omega) (KF _ f) (KG _ f)
      rw [cdEq_comm] at CGF
      rw [cdEq_refl] at CFF
      generalize cdEq F fmn fmg G gmn gmg = V at *
      have veq : (V == V) = true := by simp
      have q0 : ∀ w', Fr [] W3 w' → w'.cell? ⟨w.heap.size, 0, none⟩ = some (.slice fa fl fcap) := fun w' f => f.cell1 (at_cells E1 0 rfl) (by simp)
      have q1 : ∀ w', Fr [] W3 w' → w'.cell? ⟨w.heap.size, 1, none⟩ = some (.int .i64 fmn) := fun w' f => f.cell1 (at_cells E1 1 rfl) (by simp)
      have q2 : ∀ w', Fr [] W3 w' → w'.cell? ⟨w.heap.size, 2, none⟩ = some (.int .i64 fmg) := fun w' f => f.cell1 (at_cells E1 2 rfl) (by simp)
      have r0 : ∀ w', Fr [] W3 w' → w'.cell? ⟨w.heap.size + 1, 0, none⟩ = some (.slice ga gl gcap) := fun w' f => f.cell1 (at_cells E2 0 rfl) (by simp)
      have r1 : ∀ w', Fr [] W3 w' → w'.cell? ⟨w.heap.size + 1, 1, none⟩ = some (.int .i64 gmn) := fun w' f => f.cell1 (at_cells E2 1 rfl) (by simp)
      have r2 : ∀ w', Fr [] W3 w' → w'.cell? ⟨w.heap.size + 1, 2, none⟩ = some (.int .i64 gmg) := fun w' f => f.cell1 (at_cells E2 2 rfl) (by simp)
      have RF : Fr [] W3 W3 := Fr.refl _ _
      have HD : ∀ w' : World, Fr [] W3 w' → Fr [] W3 w'.drew := fun w' h => h.drew
      clear KF KG HFA HGA E1 E2 HFL HGL
      go_wp2_with fail
      go_region_held3 (fun w' : World => Fr [] W3 w')
        (with_reducible (first | assumption | exact HD _ (by assumption)))
        (first
          | (go_at_call 21; with_reducible (refine (CFG _ (by assumption)).mono ?_); rintro e w1 ⟨rfl, f1⟩; have F1 := Fr.trans (by assumption) f1; clear f1)
          | (go_at_call 21; with_reducible (refine (CGF _ (by assumption)).mono ?_); rintro e w1 ⟨rfl, f1⟩; have F1 := Fr.trans (by assumption) f1; clear f1)
          | (go_at_call 21; with_reducible (refine (CFF _ (by assumption)).mono ?_); rintro e w1 ⟨rfl, f1⟩; have F1 := Fr.trans (by assumption) f1; clear f1)
          | (go_at_call 22; with_reducible (refine (CR _ (by assumption)).mono ?_); rintro e w1 ⟨rfl, f1⟩; have F1 := Fr.trans (by assumption) f1; clear f1))
      all_goals
        have HGG : Hid (Fr [] w _) := G3.out.trans (by assumption)
        clear CFG CGF CFF CR q0 q1 q2 r0 r1 r2 HD
        go_wp2
        go_ret
        exact ⟨rfl, HGG.out⟩
end Go.Proofs.YtdaealionicmjaaDoor
