/-
  The document's Same: just whether there is a one-to-one relation; conditions: things are few.
-/
import Derived.Test.YtefkcmeeagflmaaDoorMhR13
namespace Go.Proofs.YtefkcmeeagflmaaDoor
open Go.RowKit
set_option linter.unusedVariables false
set_option linter.unusedSimpArgs false

theorem ext_in {l t : List (Int × Int)} : ∀ i j, inL l i j → inL (l ++ t) i j := fun i j h => by unfold inL at *; simp [h]

theorem PvE.no {w w' : World} {kp ba bb B0 : Nat} {v : Value} {e : Ending} (h : PvE w kp ba bb B0 v none e w') : e = .returned (.bool false) ∧ Fr [] w w' := h

/-- What Same comes to. -/
def SameP (A : List (Int × List (Int × Int))) (x : List (Int × Int)) (B : List (Int × List (Int × Int))) (y : List (Int × Int)) (w : World) (e : Ending) (w' : World) : Prop := ∃ r, e = .returned (.bool r) ∧ (r = true ↔ Alike A x B y) ∧ Fr [] w w'
theorem SameP.yes {A : List (Int × List (Int × Int))} {x : List (Int × Int)} {B : List (Int × List (Int × Int))} {y : List (Int × Int)} {w w' : World} (h : Alike A x B y) (f : Fr [] w w') : SameP A x B y w (.returned (.bool true)) w' := ⟨true, rfl, ⟨fun _ => h, fun _ => rfl⟩, f⟩
theorem SameP.no {A : List (Int × List (Int × Int))} {x : List (Int × Int)} {B : List (Int × List (Int × Int))} {y : List (Int × Int)} {w w' : World} (h : ¬ Alike A x B y) (f : Fr [] w w') : SameP A x B y w (.returned (.bool false)) w' := ⟨false, rfl, ⟨fun h' => (by cases h'), fun h' => absurd h' h⟩, f⟩

/-- What is read while two things are laid beside one another. -/
structure S3 (w : World) (ko kq : Nat) (oO oQ : Obj) (w' : World) : Prop where
  F : Fr [] w w'
  O : w'.heap[ko]? = some oO
  Q : w'.heap[kq]? = some oQ
theorem S3.drew {w w' : World} {ko kq : Nat} {oO oQ : Obj} (h : S3 w ko kq oO oQ w') : S3 w ko kq oO oQ w'.drew := ⟨h.F.drew, h.O, h.Q⟩
theorem PvE.keep {w w' : World} {kp ba bb B0 n : Nat} {v : Value} {r : Option (List (Int × Int))} {e : Ending} (h : PvE w kp ba bb B0 v r e w') (K : PK w kp ba bb v) {xs : List Value} (ho : w.ownsRow B0 72 2 v n xs) {k : Nat} {c : Array Value} {z : Nat × Nat} (hk : w.heap[k]? = some (.cells c 41 z)) : w'.heap[k]? = some (.cells c 41 z) := by
  cases r with
  | none => exact (h.2.block k (Array.getElem?_eq_some_iff.1 hk).1 (by simp)).trans hk
  | some l' =>
    refine (h.2.1.block k (Array.getElem?_eq_some_iff.1 hk).1 ?_).trans hk
    simp only [List.mem_cons, Option.mem_toList, not_or]
    refine ⟨?_, own_ne ho hk (by decide)⟩
    rintro rfl
    unfold PK at K
    rw [K] at hk
    simp at hk

/-- What stands while values are paired. -/
structure Pst (w : World) (kp ba bb : Nat) (l : List (Int × Int)) (v : Value) (wr : World) : Prop where
  K : PK wr kp ba bb v
  ho : wr.ownsRow kp 72 2 v l.length (flat l)
  F : Fr [] w wr

theorem Pst.next {w w1 w2 : World} {kp ba bb : Nat} {l l' : List (Int × Int)} {v : Value} (hkp : w.heap.size ≤ kp) (h : Pst w kp ba bb l v w1) {e : Ending} (hE : PvE w1 kp ba bb kp v (some l') e w2) : e = .returned (.bool true) ∧ ∃ v', Pst w kp ba bb l' v' w2 := by
  obtain ⟨rfl, f, v', K', ho', _⟩ := hE
  refine ⟨rfl, v', K', ho', ?_⟩
  have := (h.F.sub (T := kp :: v.ownBlock.toList) (by simp)).trans f
  refine this.sub (fun k hk => .inr ?_)
  simp only [List.mem_cons, Option.mem_toList] at hk
  rcases hk with rfl | hk
  · exact hkp
  · have := (h.ho.lt k hk).1
    omega
theorem Pst.drew {w w1 : World} {kp ba bb : Nat} {l : List (Int × Int)} {v : Value} (h : Pst w kp ba bb l v w1) : Pst w kp ba bb l v w1.drew :=
  ⟨h.K.fr (Fr.drew (Fr.refl [] _)) (by simp), own_fr h.ho (Fr.drew (Fr.refl [] _)) (by simp), h.F.drew⟩
theorem Pst.fr {w w1 w2 : World} {kp ba bb : Nat} {l : List (Int × Int)} {v : Value} (h : Pst w kp ba bb l v w1) (f : Fr [] w1 w2) : Pst w kp ba bb l v w2 :=
  ⟨h.K.fr f (by simp), own_fr h.ho f (by simp), h.F.trans f⟩

set_option maxRecDepth 100000 in
set_option maxHeartbeats 8000000 in
theorem rSame_any {w : World} {Ba ba Bb bb : Nat} {la ua lb ub : Int} {sa sb : Value} {rka rna rkb rnb : Int} {UA UB : List RT} (RA : RRep w Ba ba la ua sa rka rna UA) (RB : RRep w Bb bb lb ub sb rkb rnb UB) (hUA : UA.length ≤ 1000000) (hUB : UB.length ≤ 1000000) (hcA : ∀ u, u ∈ UA → u.cells.length ≤ 1000000) (hcB : ∀ u, u ∈ UB → u.cells.length ≤ 1000000)
    (xs ys : List (Int × Int)) (a1 a2 : Option Addr) (n m c1 c2 : Nat) (hxn : xs.length = n) (hym : ys.length = m) (hx : Lies w a1 xs) (hy : Lies w a2 ys) (hn : (n : Int) ≤ 1000000) :
    Calls Tryd.prog 13 #[.pointer (some ⟨ba, 0, none⟩), .slice a1 n c1, .pointer (some ⟨bb, 0, none⟩), .slice a2 m c2] w (SameP (UA.map RT.abs) xs (UB.map RT.abs) ys w) := by
  have HX : Hid (xs.length = n) := hxn
  have HY : Hid (ys.length = m) := hym
  clear hxn hym
  by_cases hnm : n = m
  · subst hnm
    have f1 : Fr [] w (w.alloc (.cells #[.pointer (some ⟨ba, 0, none⟩), .pointer (some ⟨bb, 0, none⟩), .slice none 0 0] 67)) := (Fr.refl _ _).alloc _
    have P1 : Pst w w.heap.size ba bb [] (.slice none 0 0) (w.alloc (.cells #[.pointer (some ⟨ba, 0, none⟩), .pointer (some ⟨bb, 0, none⟩), .slice none 0 0] 67)) := ⟨heap_alloc_new w _, by simpa [flat] using World.ownsRow_nil _ _ _ _, f1⟩
    go_enter Tryd.func13, Tryd.ntmps13
    go_wp2
    generalize w.alloc (.cells #[.pointer (some ⟨ba, 0, none⟩), .pointer (some ⟨bb, 0, none⟩), .slice none 0 0] 67) = w1 at *
    obtain ⟨kp, hkp⟩ : ∃ kp, w.heap.size = kp := ⟨_, rfl⟩
    rw [hkp] at P1 ⊢
    have hkp' : w.heap.size ≤ kp := by omega
    clear hkp f1
    go_loopw [10, 26] (fun _ ix wr => ∃ (k : Nat) (l : List (Int × Int)) (v : Value), k ≤ n ∧ ix = .int .i64 k ∧ Pst w kp ba bb l v wr ∧ Pi (UA.map RT.abs) xs (UB.map RT.abs) ys l ∧ Hid (∀ (j : Nat) p q, j < k → xs[j]? = some p → ys[j]? = some q → OkV (UA.map RT.abs) (UB.map RT.abs) (inL l) p q)) (fun _ ix _ => n - (intOf ix).toNat)
    case atStart => exact ⟨0, [], _, Nat.zero_le _, rfl, P1, Pi.start _ _ _ _, fun j p q h => by omega⟩
    case round =>
      obtain ⟨k, l, v, hk, rfl, Pw, PI, HO⟩ := hrel
      by_cases hlt : k < n
      · have e1 : xs[k]? = some (xs[k]'(by rw [HX.out]; exact hlt)) := List.getElem?_eq_getElem _
        have e2 : ys[k]? = some (ys[k]'(by rw [HY.out]; exact hlt)) := List.getElem?_eq_getElem _
        generalize xs[k]'(by rw [HX.out]; exact hlt) = x at *
        generalize ys[k]'(by rw [HY.out]; exact hlt) = y at *
        have hl := PI.bd
        simp only [List.length_map] at hl
        have Pd := Pw.drew
        have C := pval_any (RA.frame Pd.F (by simp)) (RB.frame Pd.F (by simp)) Pd.K Pd.ho (by have := (Array.getElem?_eq_some_iff.1 Pd.K).1; omega) (by omega) hUA hUB x y
        have hOk : ∀ R, OkR (UA.map RT.abs) (UB.map RT.abs) R → OkL (UA.map RT.abs) (UB.map RT.abs) R xs ys → OkV (UA.map RT.abs) (UB.map RT.abs) R x y := fun R _ h => h.at e1 e2
        obtain ⟨g1, o1, rfl, x0, x1⟩ := (hx.fr Pw.F (by simp)).at e1
        obtain ⟨g2, o2, rfl, y0, y1⟩ := (hy.fr Pw.F (by simp)).at e2
        have cx0 : ∀ w', Fr [] w w' → w'.cell? ⟨g1, o1 + k * 2, none⟩ = some (.int .i64 x.1) := fun w' h => by
          obtain ⟨g', o', e', h1, h2⟩ := (hx.fr h (by simp)).at e1
          cases e'
          exact h1
        have cx1 : ∀ w', Fr [] w w' → w'.cell? ⟨g1, o1 + k * 2 + 1, none⟩ = some (.int .i64 x.2) := fun w' h => by
          obtain ⟨g', o', e', h1, h2⟩ := (hx.fr h (by simp)).at e1
          cases e'
          exact h2
        have cy0 : ∀ w', Fr [] w w' → w'.cell? ⟨g2, o2 + k * 2, none⟩ = some (.int .i64 y.1) := fun w' h => by
          obtain ⟨g', o', e', h1, h2⟩ := (hy.fr h (by simp)).at e2
          cases e'
          exact h1
        have cy1 : ∀ w', Fr [] w w' → w'.cell? ⟨g2, o2 + k * 2 + 1, none⟩ = some (.int .i64 y.2) := fun w' h => by
          obtain ⟨g', o', e', h1, h2⟩ := (hy.fr h (by simp)).at e2
          cases e'
          exact h2
        have hkI : (k : Int) < (n : Int) := by omega
        have FW := Pw.F
        have HDr : ∀ w' : World, Fr [] w w' → Fr [] w w'.drew := fun w' h => h.drew
        clear x0 x1 y0 y1
        cases hv : vS (UA.map RT.abs) (UB.map RT.abs) l x y with
        | none =>
          rw [hv] at C
          have HNo : Hid (¬ Alike (UA.map RT.abs) xs (UB.map RT.abs) ys) := PI.no hOk hv
          clear hOk PI HO hv e1 e2
          go_wp2_with fail
          go_region_held3 (fun w' : World => Fr [] w w')
            (with_reducible (first | assumption | exact HDr _ (by assumption)))
            (first
              | (go_at_call 27; with_reducible (refine C.mono ?_); intro e w6 hE; obtain ⟨rfl, f6⟩ := PvE.no hE; have F6 := Fr.trans Pd.F f6))
          all_goals
            have FF : Hid (Fr [] w w6) := F6
            clear C cx0 cx1 cy0 cy1 HDr
            go_wp2
            go_ret
            exact SameP.no HNo.out FF.out
        | some l' =>
          rw [hv] at C
          obtain ⟨PI', ⟨t, rfl⟩, hok⟩ := PI.yes hOk hv
          have HO' : Hid (∀ (j : Nat) p q, j < k + 1 → xs[j]? = some p → ys[j]? = some q → OkV (UA.map RT.abs) (UB.map RT.abs) (inL (l ++ t)) p q) := fun j p q h h1 h2 => by
            by_cases hj : j = k
            · subst hj
              rw [e1] at h1
              rw [e2] at h2
              injection h1 with h1
              injection h2 with h2
              subst h1 h2
              exact hok
            · exact (HO.out j p q (by omega) h1 h2).mono ext_in
          clear hOk PI HO hv e1 e2 hok
          go_wp2_with fail
          go_region_held3 (fun w' : World => Fr [] w w')
            (with_reducible (first | assumption | exact HDr _ (by assumption)))
            (first
              | (go_at_call 27; with_reducible (refine C.mono ?_); intro e w6 hE; obtain ⟨rfl, v6, P6⟩ := Pd.next hkp' hE; have F6 := P6.F))
          all_goals
            clear C cx0 cx1 cy0 cy1 HDr hE Pd Pw
            go_wp2
            go_roundw
            case rel => exact ⟨k + 1, l ++ t, v6, by omega, by go_num, P6, PI', HO'⟩
            case measure => simp [intOf]; omega
      · have hkI : ¬ (k : Int) < (n : Int) := by omega
        have hke : k = n := by omega
        have HXY : Hid (OkL (UA.map RT.abs) (UB.map RT.abs) (inL l) xs ys) := OkL.of (HX.out.trans HY.out.symm) (fun j p q h1 h2 => HO.out j p q (by have := (List.getElem?_eq_some_iff.1 h1).1; have := HX.out; omega) h1 h2)
        clear HO hke
        go_wp2
        go_loopw [11, 12, 13, 14] (fun ix _ _ _ wr => ∃ (i : Nat) (l : List (Int × Int)) (v : Value), i ≤ l.length ∧ ix = .int .i64 i ∧ Pst w kp ba bb l v wr ∧ Pi (UA.map RT.abs) xs (UB.map RT.abs) ys l ∧ Hid (OkL (UA.map RT.abs) (UB.map RT.abs) (inL l) xs ys) ∧ Hid (∀ (k : Nat) t, k < i → l[k]? = some t → ∃ a b, thingAt (UA.map RT.abs) (2, t.1) = some a ∧ thingAt (UB.map RT.abs) (2, t.2) = some b ∧ a.1 = b.1 ∧ OkL (UA.map RT.abs) (UB.map RT.abs) (inL l) a.2 b.2)) (fun ix _ _ _ _ => UA.length + 1 - (intOf ix).toNat)
        case atStart => exact ⟨0, l, v, Nat.zero_le _, rfl, Pw, PI, HXY, fun k t h => by omega⟩
        case round =>
          clear Pw PI HXY hkI hk
          obtain ⟨i, l, v, hk, rfl, Pw, PI, HXY, HO⟩ := hrel
          have hbd := PI.bd
          simp only [List.length_map] at hbd
          have hil0 : l.length ≤ UA.length := by omega
          obtain ⟨av, cv, rfl, _⟩ := own_slice Pw.ho
          have hlI : (l.length : Int) ≤ 1000000 := by omega
          have z2 := Pw.K.c2
          by_cases hlt : i < l.length
          · have hkI : (i : Int) < (l.length : Int) := by omega
            have e1 : l[i]? = some (l[i]'hlt) := List.getElem?_eq_getElem _
            have HTM : Hid (l[i]'hlt ∈ l) := List.mem_of_getElem? e1
            have hrow : ∃ g, av = some ⟨g, 0, none⟩ ∧ ∀ w', Fr [] wr w' → w'.cell? ⟨g, i * 2, none⟩ = some (.int .i64 (l[i]'hlt).1) ∧ w'.cell? ⟨g, i * 2 + 1, none⟩ = some (.int .i64 (l[i]'hlt).2) := by
              have ha := flat_at _ _ _ e1
              obtain ⟨g, c, e, hc, _⟩ := own_cells Pw.ho ha.1
              injection e with ee
              refine ⟨g, ee, fun w' h => ?_⟩
              have how := own_fr Pw.ho h (by simp)
              obtain ⟨g1, c1', ee1, hc1, _⟩ := own_cells how ha.1
              obtain ⟨g2, c2', ee2, hc2, _⟩ := own_cells how ha.2
              injection ee1 with ee1
              injection ee2 with ee2
              rw [ee] at ee1 ee2
              cases ee1
              cases ee2
              exact ⟨hc1, hc2⟩
            obtain ⟨g, rfl, hrow⟩ := hrow
            generalize l[i]'hlt = t at *
            obtain ⟨⟨oa, hoa⟩, ⟨ob, hob⟩⟩ := PI.th t HTM.out
            obtain ⟨ia, uA, hpa, huA, rfl, hial⟩ := thing_in hoa
            obtain ⟨ib, uB, hpb, huB, rfl, hibl⟩ := thing_in hob
            obtain ⟨t1, t2⟩ := t
            simp only [Prod.mk.injEq, true_and] at hpa hpb
            subst hpa hpb
            obtain ⟨gA, cA, a4, c4, hsvA, hslA, hrdA⟩ := RA.reads huA
            obtain ⟨gB, cB, a5, c5, hsvB, hslB, hrdB⟩ := RB.reads huB
            have r0 : ∀ w', Fr [] wr w' → w'.cell? ⟨ba, 0, none⟩ = some (.slice (some ⟨gA, 0, none⟩) UA.length cA) := fun w' h => (hrdA w' (Pw.F.trans h)).1
            have r1 : ∀ w', Fr [] wr w' → w'.cell? ⟨gA, ia * 2, none⟩ = some (.int .i64 uA.sort) := fun w' h => (hrdA w' (Pw.F.trans h)).2.1
            have r2 : ∀ w', Fr [] wr w' → w'.cell? ⟨gA, ia * 2 + 1, none⟩ = some (.slice a4 uA.cells.length c4) := fun w' h => (hrdA w' (Pw.F.trans h)).2.2
            have r3 : ∀ w', Fr [] wr w' → w'.cell? ⟨bb, 0, none⟩ = some (.slice (some ⟨gB, 0, none⟩) UB.length cB) := fun w' h => (hrdB w' (Pw.F.trans h)).1
            have r4 : ∀ w', Fr [] wr w' → w'.cell? ⟨gB, ib * 2, none⟩ = some (.int .i64 uB.sort) := fun w' h => (hrdB w' (Pw.F.trans h)).2.1
            have r5 : ∀ w', Fr [] wr w' → w'.cell? ⟨gB, ib * 2 + 1, none⟩ = some (.slice a5 uB.cells.length c5) := fun w' h => (hrdB w' (Pw.F.trans h)).2.2
            have r6 : ∀ w', Fr [] wr w' → w'.cell? ⟨kp, 2, none⟩ = some (.slice (some ⟨g, 0, none⟩) l.length cv) := fun w' h => (Pw.K.fr h (by simp)).c2
            have r7 : ∀ w', Fr [] wr w' → w'.cell? ⟨g, i * 2, none⟩ = some (.int .i64 (ia : Int)) := fun w' h => (hrow w' h).1
            have r8 : ∀ w', Fr [] wr w' → w'.cell? ⟨g, i * 2 + 1, none⟩ = some (.int .i64 (ib : Int)) := fun w' h => (hrow w' h).2
            have HDr : ∀ w' : World, Fr [] wr w' → Fr [] wr w'.drew := fun w' h => h.drew
            have HA : ∀ (w' : World) (o : Obj), Fr [] wr w' → Fr [] wr (w'.alloc o) := fun w' o h => h.alloc o
            have hiaI : (ia : Int) < (UA.length : Int) := by omega
            have hibI : (ib : Int) < (UB.length : Int) := by omega
            have hUAI : (UA.length : Int) ≤ 1000000 := by omega
            have hUBI : (UB.length : Int) ≤ 1000000 := by omega
            have RF : Fr [] wr wr := Fr.refl _ _
            clear hrow hrdA hrdB
            go_wp2_with fail
            refine reg13 r0 r1 r2 r3 r4 r5 r6 r7 r8 hkI hiaI hibI hlI hUAI hUBI ?_
            intro ko kq w2 t50 t51 t52 t53 t54 t55 t56 t57 t58 t59 t60 t61 t62 t63 t64 t65 t66 t67 t68 t69 t70 t71 t72 t73 t74 t75 t76 t77 f2 oo qq
            have P2 := Pw.fr f2
            have u0 := at_cells oo 0 (u := .int .i64 uA.sort) rfl
            have u1 := at_cells oo 1 (u := .slice a4 uA.cells.length c4) rfl
            have v0 := at_cells qq 0 (u := .int .i64 uB.sort) rfl
            have v1 := at_cells qq 1 (u := .slice a5 uB.cells.length c5) rfl
            have hcAl := hcA uA (List.mem_of_getElem? huA)
            have hcBl := hcB uB (List.mem_of_getElem? huB)
            have hcAI : (uA.cells.length : Int) ≤ 1000000 := by omega
            have hcBI : (uB.cells.length : Int) ≤ 1000000 := by omega
            have HPR : Hid (∀ R, OkR (UA.map RT.abs) (UB.map RT.abs) R → OkL (UA.map RT.abs) (UB.map RT.abs) R xs ys → uA.sort = uB.sort ∧ OkL (UA.map RT.abs) (UB.map RT.abs) R uA.cells uB.cells) := fun R h1 h2 => PI.pair HTM.out hoa hob h1 h2
            have HF2 : Hid (Fr [] w w2) := P2.F
            clear r0 r1 r2 r3 r4 r5 r6 r7 r8 HDr HA RF f2 Pw z2
            by_cases hs : uA.sort = uB.sort
            · by_cases hc : uA.cells.length = uB.cells.length
              · rw [← hs] at v0
                rw [← hc] at v1
                go_wp2
                rw [hc] at v1
                clear u0 u1 v0 v1
                have hlies : ∀ {B b : Nat} {lim used : Int} {sv : Value} {rk rn : Int} {U : List RT}, RRep w B b lim used sv rk rn U → ∀ (u : RT), u ∈ U → ∀ (a : Option Addr) (c : Nat), u.sl = .slice a u.cells.length c → ∀ (k : Nat) (x : Int × Int), u.cells[k]? = some x → ∃ g, a = some ⟨g, 0, none⟩ ∧ ∀ w', Fr [] w w' → w'.cell? ⟨g, k * 2, none⟩ = some (.int .i64 x.1) ∧ w'.cell? ⟨g, k * 2 + 1, none⟩ = some (.int .i64 x.2) := by
                  intro B b lim used sv rk rn U R u hu a c hsl k x hx
                  have ha := flat_at _ _ _ hx
                  have hth := R.th u hu
                  rw [hsl] at hth
                  obtain ⟨g, c0, e, hc, _⟩ := own_cells hth ha.1
                  injection e with ee
                  refine ⟨g, ee, fun w' h => ?_⟩
                  have hth' := own_fr hth h (by simp)
                  obtain ⟨g1, c1', ee1, hc1, _⟩ := own_cells hth' ha.1
                  obtain ⟨g2, c2', ee2, hc2, _⟩ := own_cells hth' ha.2
                  injection ee1 with ee1
                  injection ee2 with ee2
                  rw [ee] at ee1 ee2
                  cases ee1
                  cases ee2
                  exact ⟨hc1, hc2⟩
                have HLA : Hid (∀ (k : Nat) (x : Int × Int), uA.cells[k]? = some x → ∃ g, a4 = some ⟨g, 0, none⟩ ∧ ∀ w', Fr [] w w' → w'.cell? ⟨g, k * 2, none⟩ = some (.int .i64 x.1) ∧ w'.cell? ⟨g, k * 2 + 1, none⟩ = some (.int .i64 x.2)) := hlies RA uA (List.mem_of_getElem? huA) a4 c4 hslA
                have HLB : Hid (∀ (k : Nat) (x : Int × Int), uB.cells[k]? = some x → ∃ g, a5 = some ⟨g, 0, none⟩ ∧ ∀ w', Fr [] w w' → w'.cell? ⟨g, k * 2, none⟩ = some (.int .i64 x.1) ∧ w'.cell? ⟨g, k * 2 + 1, none⟩ = some (.int .i64 x.2)) := hlies RB uB (List.mem_of_getElem? huB) a5 c5 hslB
                have HE1 : Hid (l[i]? = some ((ia : Int), (ib : Int))) := e1
                have HOA : Hid (thingAt (UA.map RT.abs) (2, (ia : Int)) = some uA.abs) := hoa
                have HOB : Hid (thingAt (UB.map RT.abs) (2, (ib : Int)) = some uB.abs) := hob
                have HS : Hid (uA.sort = uB.sort) := hs
                have HCC : Hid (uA.cells.length = uB.cells.length) := hc
                have HIL : Hid (i < l.length) := hlt
                clear hlies e1 hoa hob hs hc huA huB hslA hslB hsvA hsvB hk hlt hkI hbd hiaI hibI hUAI hUBI hial hibl hil0
                go_loopw [14, 95] (fun _ ix wr' => ∃ (k : Nat) (l' t : List (Int × Int)) (v' : Value), k ≤ uA.cells.length ∧ ix = .int .i64 k ∧ Pst w kp ba bb l' v' wr' ∧ Pi (UA.map RT.abs) xs (UB.map RT.abs) ys l' ∧ Hid (l' = l ++ t) ∧ wr'.heap[ko]? = some (.cells #[.int .i64 uA.sort, .slice a4 uA.cells.length c4] 41 (0, 0)) ∧ wr'.heap[kq]? = some (.cells #[.int .i64 uB.sort, .slice a5 uB.cells.length c5] 41 (0, 0)) ∧ Hid (∀ (j : Nat) p q, j < k → uA.cells[j]? = some p → uB.cells[j]? = some q → OkV (UA.map RT.abs) (UB.map RT.abs) (inL l') p q)) (fun _ ix _ => uA.cells.length - (intOf ix).toNat)
                case atStart => exact ⟨0, l, [], _, Nat.zero_le _, rfl, P2, PI, by simp [Hid], oo, qq, fun j p q h => by omega⟩
                case round =>
                  clear P2 oo qq HF2
                  obtain ⟨k2, l2, t2, v2, hk2, rfl, Pw2, PI2, HL2, oo2, qq2, HO2⟩ := hrel
                  by_cases hlt2 : k2 < uA.cells.length
                  · have e1 : uA.cells[k2]? = some (uA.cells[k2]'hlt2) := List.getElem?_eq_getElem _
                    have e2 : uB.cells[k2]? = some (uB.cells[k2]'(by rw [← HCC.out]; exact hlt2)) := List.getElem?_eq_getElem _
                    generalize uA.cells[k2]'hlt2 = x at *
                    generalize uB.cells[k2]'(by rw [← HCC.out]; exact hlt2) = y at *
                    have hl := PI2.bd
                    simp only [List.length_map] at hl
                    have Pd := Pw2.drew
                    have od : wr.drew.heap[ko]? = some (.cells #[.int .i64 uA.sort, .slice a4 uA.cells.length c4] 41 (0, 0)) := oo2
                    have qd : wr.drew.heap[kq]? = some (.cells #[.int .i64 uB.sort, .slice a5 uB.cells.length c5] 41 (0, 0)) := qq2
                    have C := pval_any (RA.frame Pd.F (by simp)) (RB.frame Pd.F (by simp)) Pd.K Pd.ho (by have := (Array.getElem?_eq_some_iff.1 Pd.K).1; omega) (by omega) hUA hUB x y
                    have hOk : ∀ R, OkR (UA.map RT.abs) (UB.map RT.abs) R → OkL (UA.map RT.abs) (UB.map RT.abs) R xs ys → OkV (UA.map RT.abs) (UB.map RT.abs) R x y := fun R h1 h2 => (HPR.out R h1 h2).2.at e1 e2
                    obtain ⟨g1, rfl, hxc⟩ := HLA.out k2 x e1
                    obtain ⟨g2, rfl, hyc⟩ := HLB.out k2 y e2
                    have cO : ∀ w', S3 w ko kq (.cells #[.int .i64 uA.sort, .slice (some ⟨g1, 0, none⟩) uA.cells.length c4] 41 (0, 0)) (.cells #[.int .i64 uB.sort, .slice (some ⟨g2, 0, none⟩) uB.cells.length c5] 41 (0, 0)) w' → w'.cell? ⟨ko, 1, none⟩ = some (.slice (some ⟨g1, 0, none⟩) uA.cells.length c4) := fun w' h => at_cells h.O 1 rfl
                    have cQ : ∀ w', S3 w ko kq (.cells #[.int .i64 uA.sort, .slice (some ⟨g1, 0, none⟩) uA.cells.length c4] 41 (0, 0)) (.cells #[.int .i64 uB.sort, .slice (some ⟨g2, 0, none⟩) uB.cells.length c5] 41 (0, 0)) w' → w'.cell? ⟨kq, 1, none⟩ = some (.slice (some ⟨g2, 0, none⟩) uB.cells.length c5) := fun w' h => at_cells h.Q 1 rfl
                    have cx0 : ∀ w', S3 w ko kq (.cells #[.int .i64 uA.sort, .slice (some ⟨g1, 0, none⟩) uA.cells.length c4] 41 (0, 0)) (.cells #[.int .i64 uB.sort, .slice (some ⟨g2, 0, none⟩) uB.cells.length c5] 41 (0, 0)) w' → w'.cell? ⟨g1, k2 * 2, none⟩ = some (.int .i64 x.1) := fun w' h => (hxc w' h.F).1
                    have cx1 : ∀ w', S3 w ko kq (.cells #[.int .i64 uA.sort, .slice (some ⟨g1, 0, none⟩) uA.cells.length c4] 41 (0, 0)) (.cells #[.int .i64 uB.sort, .slice (some ⟨g2, 0, none⟩) uB.cells.length c5] 41 (0, 0)) w' → w'.cell? ⟨g1, k2 * 2 + 1, none⟩ = some (.int .i64 x.2) := fun w' h => (hxc w' h.F).2
                    have cy0 : ∀ w', S3 w ko kq (.cells #[.int .i64 uA.sort, .slice (some ⟨g1, 0, none⟩) uA.cells.length c4] 41 (0, 0)) (.cells #[.int .i64 uB.sort, .slice (some ⟨g2, 0, none⟩) uB.cells.length c5] 41 (0, 0)) w' → w'.cell? ⟨g2, k2 * 2, none⟩ = some (.int .i64 y.1) := fun w' h => (hyc w' h.F).1
                    have cy1 : ∀ w', S3 w ko kq (.cells #[.int .i64 uA.sort, .slice (some ⟨g1, 0, none⟩) uA.cells.length c4] 41 (0, 0)) (.cells #[.int .i64 uB.sort, .slice (some ⟨g2, 0, none⟩) uB.cells.length c5] 41 (0, 0)) w' → w'.cell? ⟨g2, k2 * 2 + 1, none⟩ = some (.int .i64 y.2) := fun w' h => (hyc w' h.F).2
                    have SW : S3 w ko kq (.cells #[.int .i64 uA.sort, .slice (some ⟨g1, 0, none⟩) uA.cells.length c4] 41 (0, 0)) (.cells #[.int .i64 uB.sort, .slice (some ⟨g2, 0, none⟩) uB.cells.length c5] 41 (0, 0)) wr := ⟨Pw2.F, oo2, qq2⟩
                    have HDr : ∀ w' : World, S3 w ko kq (.cells #[.int .i64 uA.sort, .slice (some ⟨g1, 0, none⟩) uA.cells.length c4] 41 (0, 0)) (.cells #[.int .i64 uB.sort, .slice (some ⟨g2, 0, none⟩) uB.cells.length c5] 41 (0, 0)) w' → S3 w ko kq (.cells #[.int .i64 uA.sort, .slice (some ⟨g1, 0, none⟩) uA.cells.length c4] 41 (0, 0)) (.cells #[.int .i64 uB.sort, .slice (some ⟨g2, 0, none⟩) uB.cells.length c5] 41 (0, 0)) w'.drew := fun w' h => h.drew
                    have hkI2 : (k2 : Int) < (uA.cells.length : Int) := by omega
                    have hkI3 : (k2 : Int) < (uB.cells.length : Int) := by have := HCC.out; omega
                    clear hxc hyc
                    cases hv : vS (UA.map RT.abs) (UB.map RT.abs) l2 x y with
                    | none =>
                      rw [hv] at C
                      have HNo : Hid (¬ Alike (UA.map RT.abs) xs (UB.map RT.abs) ys) := PI2.no hOk hv
                      clear hOk PI2 HO2 hv e1 e2 PI HO HXY
                      go_wp2_with fail
                      go_region_held3 (fun w' : World => S3 w ko kq (.cells #[.int .i64 uA.sort, .slice (some ⟨g1, 0, none⟩) uA.cells.length c4] 41 (0, 0)) (.cells #[.int .i64 uB.sort, .slice (some ⟨g2, 0, none⟩) uB.cells.length c5] 41 (0, 0)) w')
                        (with_reducible (first | assumption | exact HDr _ (by assumption)))
                        (first
                          | (go_at_call 27; with_reducible (refine C.mono ?_); intro e w6 hE; have hO6 := PvE.keep hE Pd.K Pd.ho od; have hQ6 := PvE.keep hE Pd.K Pd.ho qd; obtain ⟨rfl, f6⟩ := PvE.no hE; have S6 : S3 w ko kq (.cells #[.int .i64 uA.sort, .slice (some ⟨g1, 0, none⟩) uA.cells.length c4] 41 (0, 0)) (.cells #[.int .i64 uB.sort, .slice (some ⟨g2, 0, none⟩) uB.cells.length c5] 41 (0, 0)) w6 := ⟨Fr.trans Pd.F f6, hO6, hQ6⟩))
                      all_goals
                        have FF : Hid (Fr [] w w6) := S6.F
                        clear C cO cQ cx0 cx1 cy0 cy1 HDr
                        go_wp2
                        go_ret
                        exact SameP.no HNo.out FF.out
                    | some l' =>
                      rw [hv] at C
                      obtain ⟨PI', ⟨t3, rfl⟩, hok⟩ := PI2.yes hOk hv
                      have HO' : Hid (∀ (j : Nat) p q, j < k2 + 1 → uA.cells[j]? = some p → uB.cells[j]? = some q → OkV (UA.map RT.abs) (UB.map RT.abs) (inL (l2 ++ t3)) p q) := fun j p q h h1 h2 => by
                        by_cases hj : j = k2
                        · subst hj
                          rw [e1] at h1
                          rw [e2] at h2
                          injection h1 with h1
                          injection h2 with h2
                          subst h1 h2
                          exact hok
                        · exact (HO2.out j p q (by omega) h1 h2).mono ext_in
                      have HL3 : Hid (l2 ++ t3 = l ++ (t2 ++ t3)) := by unfold Hid; rw [HL2.out, List.append_assoc]
                      clear hOk PI2 HO2 hv e1 e2 hok
                      go_wp2_with fail
                      go_region_held3 (fun w' : World => S3 w ko kq (.cells #[.int .i64 uA.sort, .slice (some ⟨g1, 0, none⟩) uA.cells.length c4] 41 (0, 0)) (.cells #[.int .i64 uB.sort, .slice (some ⟨g2, 0, none⟩) uB.cells.length c5] 41 (0, 0)) w')
                        (with_reducible (first | assumption | exact HDr _ (by assumption)))
                        (first
                          | (go_at_call 27; with_reducible (refine C.mono ?_); intro e w6 hE; have hO6 := PvE.keep hE Pd.K Pd.ho od; have hQ6 := PvE.keep hE Pd.K Pd.ho qd; obtain ⟨rfl, v6, P6⟩ := Pd.next hkp' hE; have S6 : S3 w ko kq (.cells #[.int .i64 uA.sort, .slice (some ⟨g1, 0, none⟩) uA.cells.length c4] 41 (0, 0)) (.cells #[.int .i64 uB.sort, .slice (some ⟨g2, 0, none⟩) uB.cells.length c5] 41 (0, 0)) w6 := ⟨P6.F, hO6, hQ6⟩))
                      all_goals
                        clear C cO cQ cx0 cx1 cy0 cy1 HDr hE Pd Pw2
                        go_wp2
                        go_roundw
                        case rel => exact ⟨k2 + 1, l2 ++ t3, t2 ++ t3, v6, by omega, by go_num, P6, PI', HL3, hO6, hQ6, HO'⟩
                        case measure => simp [intOf]; omega
                  · have hkI2 : ¬ (k2 : Int) < (uA.cells.length : Int) := by omega
                    have hkI3 : ¬ (k2 : Int) < (uB.cells.length : Int) := by have := HCC.out; omega
                    have HAll : Hid (OkL (UA.map RT.abs) (UB.map RT.abs) (inL l2) uA.cells uB.cells) := OkL.of HCC.out (fun j p q h1 h2 => HO2.out j p q (by have := (List.getElem?_eq_some_iff.1 h1).1; omega) h1 h2)
                    have HXY2 : Hid (OkL (UA.map RT.abs) (UB.map RT.abs) (inL l2) xs ys) := by
                      have := HXY.out.mono (ext_in (t := t2))
                      unfold Hid
                      rw [HL2.out]
                      exact this
                    have HO3 : Hid (∀ (k : Nat) t, k < i + 1 → l2[k]? = some t → ∃ a b, thingAt (UA.map RT.abs) (2, t.1) = some a ∧ thingAt (UB.map RT.abs) (2, t.2) = some b ∧ a.1 = b.1 ∧ OkL (UA.map RT.abs) (UB.map RT.abs) (inL l2) a.2 b.2) := fun k t h ht => by
                      have hi := HIL.out
                      rw [HL2.out, List.getElem?_append_left (by omega)] at ht
                      by_cases hki : k = i
                      · subst hki
                        rw [HE1.out] at ht
                        injection ht with ht
                        subst ht
                        exact ⟨uA.abs, uB.abs, HOA.out, HOB.out, HS.out, HAll.out⟩
                      · obtain ⟨a, b, h1, h2, h3, h4⟩ := HO.out k t (by omega) ht
                        refine ⟨a, b, h1, h2, h3, ?_⟩
                        rw [HL2.out]
                        exact h4.mono ext_in
                    have HLen : Hid (i + 1 ≤ l2.length) := by unfold Hid; rw [HL2.out, List.length_append]; have := HIL.out; omega
                    have HB2 : Hid (i < UA.length + 1) := by have := PI.bd; simp only [List.length_map] at this; have := HIL.out; unfold Hid; omega
                    have hiI : (i : Int) ≤ 1000000 := by have := HB2.out; omega
                    clear HO2 oo2 qq2 HO HXY PI
                    go_wp2
                    go_roundw
                    case rel => exact ⟨i + 1, l2, v2, HLen.out, by go_num, Pw2, PI2, HXY2, HO3⟩
                    case measure => have := HB2.out; simp [intOf]; omega
              · have hd2 : ((uA.cells.length : Int) == (uB.cells.length : Int)) = false := by simp only [beq_eq_false_iff_ne, ne_eq]; omega
                have HNo : Hid (¬ Alike (UA.map RT.abs) xs (UB.map RT.abs) ys) := by
                  rintro ⟨R, h1, h2⟩
                  exact hc (HPR.out R h1 h2).2.len
                rw [← hs] at v0
                go_wp2
                go_ret
                exact SameP.no HNo.out HF2.out
            · have hd1 : (uA.sort == uB.sort) = false := by simp only [beq_eq_false_iff_ne, ne_eq]; exact hs
              have HNo : Hid (¬ Alike (UA.map RT.abs) xs (UB.map RT.abs) ys) := by
                rintro ⟨R, h1, h2⟩
                exact hs (HPR.out R h1 h2).1
              go_wp2
              go_ret
              exact SameP.no HNo.out HF2.out
          · have hkI : ¬ (i : Int) < (l.length : Int) := by omega
            have hke : i = l.length := by omega
            have HAl : Hid (Alike (UA.map RT.abs) xs (UB.map RT.abs) ys) := PI.alike HXY.out (fun k t ht => HO.out k t (by have := (List.getElem?_eq_some_iff.1 ht).1; omega) ht)
            have HF : Hid (Fr [] w wr) := Pw.F
            clear HO PI HXY
            go_wp2
            go_ret
            exact SameP.yes HAl.out HF.out
  · have hd : ((n : Int) == (m : Int)) = false := by simp only [beq_eq_false_iff_ne, ne_eq]; omega
    have HNo : Hid (¬ Alike (UA.map RT.abs) xs (UB.map RT.abs) ys) := by
      rintro ⟨R, _, h⟩
      have := h.len
      have := HX.out
      have := HY.out
      omega
    go_enter Tryd.func13, Tryd.ntmps13
    go_wp2
    go_ret
    exact SameP.no HNo.out (Fr.refl _ _)
end Go.Proofs.YtefkcmeeagflmaaDoor
