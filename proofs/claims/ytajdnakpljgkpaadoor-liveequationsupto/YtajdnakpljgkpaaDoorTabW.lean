/-
  Which registers are live ahead of each instruction of any code; condition: the tables lie as the program's text lays them.
-/
import Derived.Test.YtajdnakpljgkpaaDoorAwk
import Derived.Test.YtajdnakpljgkpaaDoorIrYb
import Derived.Test.YtajdnakpljgkpaaDoorIrF
import Derived.Deep.RegionHeld3
namespace Go.Proofs.YtajdnakpljgkpaaDoor
open Go.RowKit
set_option linter.unusedVariables false
set_option linter.unusedSimpArgs false

theorem ksEq_refl' (l : List Int) : ksEq l l = true := by simp [ksEq]
/-- A list of lists, at one place. -/
theorem LL.at {w : World} {base : Nat} {v : Value} {R : List (List Int)} (h : LL w base v R) {i : Nat} {K : List Int} (hK : R[i]? = some K) : ∃ g gc a c, v = .slice (some ⟨g, 0, none⟩) R.length gc ∧ w.cell? ⟨g, i, none⟩ = some (.slice a K.length c) ∧ KAt w.heap.size w a K ∧ K.length ≤ maxLen := by
  obtain ⟨vs, ho, hk⟩ := h
  obtain ⟨a, c, h1, h2⟩ := hk i K hK
  obtain ⟨g, gc, e1, k0, _⟩ := own_cells ho h1
  exact ⟨g, gc, a, c, e1, k0, h2.kat, h2.len⟩
theorem LL.low {w : World} {B base : Nat} {v : Value} {R : List (List Int)} (h : LL w B v R) (hB : base ≤ B) : LL w base v R := by
  obtain ⟨vs, ho, hk⟩ := h
  exact ⟨vs, own_low ho hB, fun i K hK => by obtain ⟨a, c, h1, h2⟩ := hk i K hK; exact ⟨a, c, h1, own_low h2 hB⟩⟩
theorem LL.slice {w : World} {base : Nat} {v : Value} {R : List (List Int)} (h : LL w base v R) : ∃ a c, v = .slice a R.length c := by
  obtain ⟨vs, ho, hk⟩ := h
  obtain ⟨a, c, e, _⟩ := own_slice ho
  exact ⟨a, c, e⟩

abbrev TabC (f : Fu) (b : Nat) (W W' : World) (e : Ending) (u : World) : Prop := ∃ v P, e = .returned v ∧ Hid (∀ u', Fr [] u u' → LL u' b v (tabL P f.code.length)) ∧ Hid (Least f.code f.rs (fun i r => hasS (P i).s r = true)) ∧ Fr [] W u ∧ Fr [] W' u
abbrev RTabC (f : Fu) (b : Nat) (W W' : World) (e : Ending) (u : World) : Prop := ∃ v S, e = .returned v ∧ Hid (∀ u', Fr [] u u' → LL u' b v (rtab S (regN f.rs) f.code.length)) ∧ Hid (Least f.code f.rs (fun i r => r < regN f.rs ∧ S i r = true)) ∧ Fr [] W u ∧ Fr [] W' u
theorem tab_call {b : Nat} {f : Fu} {W W' : World} (hf : FuOk b W f) (hB : b ≤ W.heap.size) (hN : f.code.length ≤ 2000000) (hl : ∀ x ∈ f.code, x.l.length ≤ 8000000000000) (T : Tabs W) (f' : Fr [] W W') : Calls Tryd.prog 9 #[.agg f.arr] W' (TabC f b W W') :=
  (tables_any b f W' (hf.fr f' (by simp)) (Nat.le_trans hB f'.size) hN hl (T.fr f' (by simp))).mono fun e u ⟨v, P, h1, h2, h3, h4⟩ => ⟨v, P, h1, fun u' k => (h2.low (Nat.le_trans hB f'.size)).fr k (by simp), h3, f'.trans h4, h4⟩
theorem rtab_call {b : Nat} {f : Fu} {W W' : World} (hf : FuOk b W f) (hB : b ≤ W.heap.size) (hN : f.code.length ≤ 2000000) (hl : ∀ x ∈ f.code, x.l.length ≤ 8000000000000) (f' : Fr [] W W') : Calls Tryd.prog 10 #[.agg f.arr] W' (RTabC f b W W') :=
  (rtables_any b f W' (hf.fr f' (by simp)) (Nat.le_trans hB f'.size) hN hl).mono fun e u ⟨v, P, h1, h2, h3, h4⟩ => ⟨v, P, h1, fun u' k => (h2.low (Nat.le_trans hB f'.size)).fr k (by simp), h3, f'.trans h4, h4⟩

set_option maxRecDepth 100000 in
set_option maxHeartbeats 8000000 in
theorem liveTables_walk (f : Fu) (w : World) (hf : FuOk w.heap.size w f) (hN : f.code.length ≤ 2000000) (hl : ∀ x ∈ f.code, x.l.length ≤ 8000000000000) (T : Tabs w) :
    Calls Tryd.prog 3 #[.agg f.arr] w fun e w' => e = .returned (.bool true) ∧ Fr [] w w' := by
  have F0 : Fr [] w (w.alloc (.cells f.arr 24)) := (Fr.refl _ _).alloc _
  have bx : (w.alloc (.cells f.arr 24)).heap[w.heap.size]? = some (.cells f.arr 24 (0, 0)) := heap_alloc_new w _
  have HX : Hid (FuOk w.heap.size (w.alloc (.cells f.arr 24)) f) := hf.fr F0 (by simp)
  have HT : Hid (Tabs (w.alloc (.cells f.arr 24))) := T.fr F0 (by simp)
  have CA := awake_any _ HT.out
  have HF : Hid (Fr [] w (w.alloc (.cells f.arr 24))) := F0
  have hNI : (f.code.length : Int) ≤ 2000000 := by omega
  clear hf T F0
  go_enter Tryd.func3, Tryd.ntmps3
  unfold Fu.arr at CA bx HX HT HF ⊢
  go_wp2_with fail
  with_reducible (refine CA.mono ?_)
  rintro e W1 ⟨rfl, f1⟩
  have B1 := (f1.block _ (Array.getElem?_eq_some_iff.1 bx).1 (by simp)).trans bx
  have G1 : Hid (Fr [] w W1) := HF.out.trans f1
  have X1 : FuOk w.heap.size W1 f := HX.out.fr f1 (by simp)
  have T1 : Tabs W1 := HT.out.fr f1 (by simp)
  have hwW : w.heap.size ≤ W1.heap.size := G1.out.size
  have p0 : W1.cell? ⟨w.heap.size, 0, none⟩ = some (.string f.name) := at_cells B1 0 rfl
  have p1 : W1.cell? ⟨w.heap.size, 1, none⟩ = some (.int .i64 f.ps) := at_cells B1 1 rfl
  have p2 : W1.cell? ⟨w.heap.size, 2, none⟩ = some (.int .i64 f.rs) := at_cells B1 2 rfl
  have p3 : W1.cell? ⟨w.heap.size, 3, none⟩ = some (.slice f.ca f.code.length f.cc) := at_cells B1 3 rfl
  have C9 := few_any w.heap.size f W1 X1 hwW
  unfold Fu.arr at C9
  clear CA f1 bx HX HT HF
  go_wp2_with fail
  with_reducible (refine C9.mono ?_)
  rintro e W2 ⟨⟨bv, rfl⟩, f2⟩
  have B2 := (f2.block _ (Array.getElem?_eq_some_iff.1 B1).1 (by simp)).trans B1
  have X2 : FuOk w.heap.size W2 f := X1.fr f2 (by simp)
  have T2 : Tabs W2 := T1.fr f2 (by simp)
  have HG : Hid (Fr [] w W2) := G1.out.trans f2
  have hw2 : w.heap.size ≤ W2.heap.size := HG.out.size
  clear C9 f2 B1 X1 T1 G1 p0 p1 p2 p3 hwW
  cases bv with
  | false =>
    go_wp2
    go_ret
    exact ⟨rfl, HG.out⟩
  | true =>
    have CT := fun w' (f' : Fr [] W2 w') => tab_call X2 hw2 hN hl T2 f'
    have CR := fun w' (f' : Fr [] W2 w') => rtab_call X2 hw2 hN hl f'
    have m0 : ∀ w', Fr [] W2 w' → w'.cell? ⟨w.heap.size, 0, none⟩ = some (.string f.name) := fun w' f => f.cell1 (at_cells B2 0 rfl) (by simp)
    have m1 : ∀ w', Fr [] W2 w' → w'.cell? ⟨w.heap.size, 1, none⟩ = some (.int .i64 f.ps) := fun w' f => f.cell1 (at_cells B2 1 rfl) (by simp)
    have m2 : ∀ w', Fr [] W2 w' → w'.cell? ⟨w.heap.size, 2, none⟩ = some (.int .i64 f.rs) := fun w' f => f.cell1 (at_cells B2 2 rfl) (by simp)
    have m3 : ∀ w', Fr [] W2 w' → w'.cell? ⟨w.heap.size, 3, none⟩ = some (.slice f.ca f.code.length f.cc) := fun w' f => f.cell1 (at_cells B2 3 rfl) (by simp)
    unfold Fu.arr at CT CR
    have RF : Fr [] W2 W2 := Fr.refl _ _
    have HD : ∀ w' : World, Fr [] W2 w' → Fr [] W2 w'.drew := fun w' h => h.drew
    clear X2 B2 T2
    go_wp2_with fail
    go_region_held3 (fun w' : World => Fr [] W2 w')
      (with_reducible (first | assumption | exact HD _ (by assumption)))
      (first
        | (go_at_call 9; with_reducible (refine (CT _ (by assumption)).mono ?_); rintro e w1 ⟨v1, P, rfl, KA, HL1, F1, E1⟩)
        | (go_at_call 10; with_reducible (refine (CR _ (by assumption)).mono ?_); rintro e w2 ⟨v2, S, rfl, KB, HL2, F2, E2⟩))
    all_goals
      clear CT CR m0 m1 m2 m3
      first
        | (have FZ : Hid (Fr [] W2 w2) := F2
           have KA2 : Hid (LL w2 w.heap.size v1 (tabL P f.code.length)) := KA.out _ (by first | exact Fr.refl _ _ | assumption)
           have KB2 : Hid (LL w2 w.heap.size v2 (tabL P f.code.length)) := by unfold Hid; rw [tab_eq HL1.out HL2.out]; exact KB.out _ (by first | exact Fr.refl _ _ | assumption)
           clear KA KB HL1 HL2 F1 F2 E1 E2 HD RF
           generalize w2 = W3 at *)
        | (have FZ : Hid (Fr [] W2 w1) := F1
           have KA2 : Hid (LL w1 w.heap.size v1 (tabL P f.code.length)) := KA.out _ (by first | exact Fr.refl _ _ | assumption)
           have KB2 : Hid (LL w1 w.heap.size v2 (tabL P f.code.length)) := by unfold Hid; rw [tab_eq HL1.out HL2.out]; exact KB.out _ (by first | exact Fr.refl _ _ | assumption)
           clear KA KB HL1 HL2 F1 F2 E1 E2 HD RF
           generalize w1 = W3 at *)
      obtain ⟨a1, c1, rfl⟩ := KA2.out.slice
      obtain ⟨a2, c2, rfl⟩ := KB2.out.slice
      rw [tabL_len] at *
      generalize hTT : tabL P f.code.length = TT at *
      have HTL : Hid (TT.length = f.code.length) := by unfold Hid; rw [← hTT, tabL_len]
      have HGZ : Hid (Fr [] w W3) := HG.out.trans FZ.out
      clear hTT hl hN hw2 HG FZ
      generalize f.code.length = N at *
      go_wp2
      go_loopw [22] (fun i wr => ∃ p : Nat, p ≤ N ∧ i = .int .i64 p ∧ Hid (Fr [] W3 wr)) (fun i _ => N - (intOf i).toNat)
      case atStart => exact ⟨0, Nat.zero_le _, rfl, Fr.refl _ _⟩
      case round =>
        obtain ⟨p, hp, rfl, FX⟩ := hrel
        by_cases hlt : p < N
        · have hpI : (p : Int) < N := by omega
          have hx : TT[p]? = some (TT[p]'(by rw [HTL.out]; exact hlt)) := List.getElem?_eq_getElem _
          generalize TT[p]'(by rw [HTL.out]; exact hlt) = K at hx
          obtain ⟨g1, gc1, b1, d1, e1, k1, ka1, kl1⟩ := (KA2.out.fr FX.out (by simp)).at hx
          obtain ⟨g2, gc2, b2, d2, e2, k2, ka2, _⟩ := (KB2.out.fr FX.out (by simp)).at hx
          rw [HTL.out] at e1 e2
          cases e1
          cases e2
          have C11 := fun (w' : World) (f' : Fr [] wr w') => ints_any w'.heap.size w' K K b1 b2 K.length K.length d1 d2 rfl rfl kl1 kl1 ((ka1.fr f' (by simp)).up f'.size) ((ka2.fr f' (by simp)).up f'.size)
          rw [ksEq_refl'] at C11
          have m1 : ∀ w', Fr [] wr w' → w'.cell? ⟨g1, p, none⟩ = some (.slice b1 K.length d1) := fun w' f => f.cell1 k1 (by simp)
          have m2 : ∀ w', Fr [] wr w' → w'.cell? ⟨g2, p, none⟩ = some (.slice b2 K.length d2) := fun w' f => f.cell1 k2 (by simp)
          have RF : Fr [] wr wr := Fr.refl _ _
          have HD : ∀ w' : World, Fr [] wr w' → Fr [] wr w'.drew := fun w' h => h.drew
          clear k1 k2 ka1 ka2 kl1 hx
          go_wp2_with fail
          go_region_held3 (fun w' : World => Fr [] wr w')
            (with_reducible (first | assumption | exact HD _ (by assumption)))
            (first
              | (go_at_call 11; with_reducible (refine (C11 _ (by assumption)).mono ?_); rintro e w5 ⟨rfl, f5⟩; have F5 := Fr.trans (by assumption) f5))
          all_goals
            have HGG : Hid (Fr [] W3 _) := FX.out.trans F5
            clear C11 m1 m2 HD
            go_wp2
            go_roundw
            case rel => exact ⟨p + 1, hlt, by go_num, HGG⟩
            case measure => simp [intOf]; omega
        · obtain rfl : p = N := by omega
          have HGG : Hid (Fr [] w wr) := HGZ.out.trans FX.out
          go_wp2
          go_ret
          exact ⟨rfl, HGG.out⟩
end Go.Proofs.YtajdnakpljgkpaaDoor
