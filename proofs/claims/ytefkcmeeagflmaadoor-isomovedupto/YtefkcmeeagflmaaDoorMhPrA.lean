/-
  The document's pairs: one pair of values; conditions: things are few.
-/
import Derived.Test.YtefkcmeeagflmaaDoorMhRefA
import Derived.Test.YtefkcmeeagflmaaDoorMhPurG
import Derived.Deep.RegionHeld3
namespace Go.Proofs.YtefkcmeeagflmaaDoor
open Go.RowKit
set_option linter.unusedVariables false
set_option linter.unusedSimpArgs false

theorem under65 : Tryd.prog.underlying 65 = some (.slice 72) := by kernel_rfl
theorem info72 : (Tryd.prog.info? 72).map (fun i => (i.zero, i.size, i.bytes)) = some (some (.agg #[.int .i64 0, .int .i64 0]), 2, 16) := by kernel_rfl

/-- The pairs' own cells. -/
def PK (w : World) (kp ba bb : Nat) (v : Value) : Prop := w.heap[kp]? = some (.cells #[.pointer (some ⟨ba, 0, none⟩), .pointer (some ⟨bb, 0, none⟩), v] 67 (0, 0))
section
variable {w w' : World} {kp ba bb : Nat} {v : Value}
theorem PK.fr {S : List Nat} (h : PK w kp ba bb v) (f : Fr S w w') (hS : kp ∉ S) : PK w' kp ba bb v := (f.block kp (Array.getElem?_eq_some_iff.1 h).1 hS).trans h
theorem PK.c0 (h : PK w kp ba bb v) : w.cell? ⟨kp, 0, none⟩ = some (.pointer (some ⟨ba, 0, none⟩)) := at_cells h 0 rfl
theorem PK.c1 (h : PK w kp ba bb v) : w.cell? ⟨kp, 1, none⟩ = some (.pointer (some ⟨bb, 0, none⟩)) := at_cells h 1 rfl
theorem PK.c2 (h : PK w kp ba bb v) : w.cell? ⟨kp, 2, none⟩ = some v := at_cells h 2 rfl
theorem PK.froz (h : PK w kp ba bb v) : w.frozen? ⟨kp, 2, none⟩ = false := by
  unfold PK at h
  simp [World.frozen?, h]
theorem PK.set (h : PK w kp ba bb v) (u : Value) : PK (w.setCell ⟨kp, 2, none⟩ u) kp ba bb u := by
  unfold PK at *
  have := (Array.getElem?_eq_some_iff.1 h).1
  simp [World.setCell, Array.getElem?_modify, h]
end

/-- What a pair of values leaves. -/
def PvE (w : World) (kp ba bb B0 : Nat) (v : Value) (r : Option (List (Int × Int))) (e : Ending) (w' : World) : Prop :=
  match r with
  | none => e = .returned (.bool false) ∧ Fr [] w w'
  | some l' => e = .returned (.bool true) ∧ Fr (kp :: v.ownBlock.toList) w w' ∧ ∃ v', PK w' kp ba bb v' ∧ w'.ownsRow B0 72 2 v' l'.length (flat l') ∧ (∀ k, v'.ownBlock = some k → v.ownBlock = some k ∨ w.heap.size ≤ k)

set_option maxRecDepth 100000 in
set_option maxHeartbeats 8000000 in
theorem pval_any {w : World} {Ba ba Bb bb kp B0 : Nat} {la ua lb ub : Int} {sa sb v : Value} {rka rna rkb rnb : Int} {UA UB : List RT} (RA : RRep w Ba ba la ua sa rka rna UA) (RB : RRep w Bb bb lb ub sb rkb rnb UB) {l : List (Int × Int)} (K : PK w kp ba bb v) (ho : w.ownsRow B0 72 2 v l.length (flat l)) (hB : B0 ≤ w.heap.size) (hl : l.length ≤ 1000000) (hUA : UA.length ≤ 1000000) (hUB : UB.length ≤ 1000000) (p q : Int × Int) :
    Calls Tryd.prog 27 #[.pointer (some ⟨kp, 0, none⟩), .agg #[.int .i64 p.1, .int .i64 p.2], .agg #[.int .i64 q.1, .int .i64 q.2]] w (PvE w kp ba bb B0 v (vS (UA.map RT.abs) (UB.map RT.abs) l p q)) := by
  obtain ⟨i72, hi, hz, hs, hby⟩ := info_parts info72
  obtain ⟨av, cv, rfl, _⟩ := own_slice ho
  obtain ⟨p1, p2⟩ := p
  obtain ⟨q1, q2⟩ := q
  have f0 : Fr [] w ((w.alloc (.cells #[.int .i64 p1, .int .i64 p2] 45)).alloc (.cells #[.int .i64 q1, .int .i64 q2] 45)) := ((Fr.refl _ _).alloc _).alloc _
  have B1 : ((w.alloc (.cells #[.int .i64 p1, .int .i64 p2] 45)).alloc (.cells #[.int .i64 q1, .int .i64 q2] 45)).heap[w.heap.size]? = some (.cells #[.int .i64 p1, .int .i64 p2] 45 (0, 0)) := by
    have h1 := heap_alloc_new w (.cells #[.int .i64 p1, .int .i64 p2] 45)
    exact (((Fr.refl [] _).alloc (.cells #[.int .i64 q1, .int .i64 q2] 45)).block _ (Array.getElem?_eq_some_iff.1 h1).1 (by simp)).trans h1
  have B2 : ((w.alloc (.cells #[.int .i64 p1, .int .i64 p2] 45)).alloc (.cells #[.int .i64 q1, .int .i64 q2] 45)).heap[w.heap.size + 1]? = some (.cells #[.int .i64 q1, .int .i64 q2] 45 (0, 0)) := by
    have := heap_alloc_new (w.alloc (.cells #[.int .i64 p1, .int .i64 p2] 45)) (.cells #[.int .i64 q1, .int .i64 q2] 45)
    simpa using this
  go_enter Tryd.func27, Tryd.ntmps27
  generalize hw0 : (w.alloc (.cells #[.int .i64 p1, .int .i64 p2] 45)).alloc (.cells #[.int .i64 q1, .int .i64 q2] 45) = w0 at *
  have RA0 := RA.frame f0 (by simp)
  have RB0 := RB.frame f0 (by simp)
  have ho0 := own_fr ho f0 (by simp)
  have K0 := K.fr f0 (by simp)
  obtain ⟨kb, hkb⟩ : ∃ kb, w.heap.size = kb := ⟨_, rfl⟩
  rw [hkb] at B1 B2
  have b0 : ∀ w' : World, Fr [] w0 w' → w'.cell? ⟨kb, 0, none⟩ = some (.int .i64 p1) := fun w' h => at_cells ((h.block _ (Array.getElem?_eq_some_iff.1 B1).1 (by simp)).trans B1) 0 rfl
  have b1 : ∀ w' : World, Fr [] w0 w' → w'.cell? ⟨kb, 1, none⟩ = some (.int .i64 p2) := fun w' h => at_cells ((h.block _ (Array.getElem?_eq_some_iff.1 B1).1 (by simp)).trans B1) 1 rfl
  have b2 : ∀ w' : World, Fr [] w0 w' → w'.cell? ⟨kb + 1, 0, none⟩ = some (.int .i64 q1) := fun w' h => at_cells ((h.block _ (Array.getElem?_eq_some_iff.1 B2).1 (by simp)).trans B2) 0 rfl
  have b3 : ∀ w' : World, Fr [] w0 w' → w'.cell? ⟨kb + 1, 1, none⟩ = some (.int .i64 q2) := fun w' h => at_cells ((h.block _ (Array.getElem?_eq_some_iff.1 B2).1 (by simp)).trans B2) 1 rfl
  have x0 : ∀ w' : World, Fr [] w0 w' → w'.cell? ⟨kp, 0, none⟩ = some (.pointer (some ⟨ba, 0, none⟩)) := fun w' h => (K0.fr h (by simp)).c0
  have x1 : ∀ w' : World, Fr [] w0 w' → w'.cell? ⟨kp, 1, none⟩ = some (.pointer (some ⟨bb, 0, none⟩)) := fun w' h => (K0.fr h (by simp)).c1
  have x2 : ∀ w' : World, Fr [] w0 w' → w'.cell? ⟨kp, 2, none⟩ = some (.slice av l.length cv) := fun w' h => (K0.fr h (by simp)).c2
  have HD : ∀ w' : World, Fr [] w0 w' → Fr [] w0 w'.drew := fun w' h => h.drew
  have RF : Fr [] w0 w0 := Fr.refl _ _
  obtain ⟨n, hn⟩ : ∃ n, n = match thingAt (UA.map RT.abs) (p1, p2) with | some _ => p2 | none => -1 := ⟨_, rfl⟩
  obtain ⟨m, hm⟩ : ∃ m, m = match thingAt (UB.map RT.abs) (q1, q2) with | some _ => q2 | none => -1 := ⟨_, rfl⟩
  have HN : Hid (n = match thingAt (UA.map RT.abs) (p1, p2) with | some _ => p2 | none => -1) := hn
  have HM : Hid (m = match thingAt (UB.map RT.abs) (q1, q2) with | some _ => q2 | none => -1) := hm
  clear hn hm
  have CA : ∀ w', Fr [] w0 w' → Calls Tryd.prog 37 #[.pointer (some ⟨ba, 0, none⟩), .agg #[.int .i64 p1, .int .i64 p2]] w' fun e w'' => e = .returned (.int .i64 n) ∧ Fr [] w' w'' := fun w' h => by
    rw [HN.out]
    cases ht : thingAt (UA.map RT.abs) (p1, p2) with
    | none => exact At_bad (RA0.frame h (by simp)) p1 p2 (thing_out ht)
    | some o =>
      obtain ⟨i, u, hpe, hu, rfl, hil⟩ := thing_in ht
      simp only [Prod.mk.injEq] at hpe
      obtain ⟨rfl, rfl⟩ := hpe
      exact At_ok (RA0.frame h (by simp)) (i : Int) (by omega) (by omega)
  have CB : ∀ w', Fr [] w0 w' → Calls Tryd.prog 37 #[.pointer (some ⟨bb, 0, none⟩), .agg #[.int .i64 q1, .int .i64 q2]] w' fun e w'' => e = .returned (.int .i64 m) ∧ Fr [] w' w'' := fun w' h => by
    rw [HM.out]
    cases ht : thingAt (UB.map RT.abs) (q1, q2) with
    | none => exact At_bad (RB0.frame h (by simp)) q1 q2 (thing_out ht)
    | some o =>
      obtain ⟨i, u, hpe, hu, rfl, hil⟩ := thing_in ht
      simp only [Prod.mk.injEq] at hpe
      obtain ⟨rfl, rfl⟩ := hpe
      exact At_ok (RB0.frame h (by simp)) (i : Int) (by omega) (by omega)
  go_wp2_with fail
  go_region_held3 (fun w' : World => Fr [] w0 w')
    (with_reducible (first | assumption | exact HD _ (by assumption)))
    (first
      | (go_at_call 37; with_reducible (refine (CA _ (by assumption)).mono ?_); rintro e w1 ⟨rfl, f1⟩; have F1 := Fr.trans (by assumption) f1)
      | (go_at_call 37; with_reducible (refine (CB _ (by assumption)).mono ?_); rintro e w2 ⟨rfl, f2⟩; have F2 := Fr.trans (by assumption) f2))
  all_goals
    have y0 := b0 _ F2
    have y1 := b1 _ F2
    have y2 := b2 _ F2
    have y3 := b3 _ F2
    have y4 := x2 _ F2
    have G2 : Fr [] w w2 := f0.trans F2
    have ho2 := own_fr ho0 F2 (by simp)
    have K2 := K0.fr F2 (by simp)
    clear CA CB b0 b1 b2 b3 x0 x1 x2 HD RA0 RB0 f1 f2 F1 K0 ho0 B1 B2 F2 RF f0
    have HG : Hid (Fr [] w w2) := G2
    cases hA : thingAt (UA.map RT.abs) (p1, p2) with
    | none =>
      obtain rfl : n = -1 := by rw [HN.out, hA]
      cases hb : thingAt (UB.map RT.abs) (q1, q2) with
      | none =>
        obtain rfl : m = -1 := by rw [HM.out, hb]
        by_cases h1 : p1 = q1
        · subst h1
          by_cases h2 : p2 = q2
          · subst h2
            have HV : Hid (vS (UA.map RT.abs) (UB.map RT.abs) l (p1, p2) (p1, p2) = some l) := by unfold Hid vS; rw [hA, hb]; simp
            clear hA hb
            go_wp2
            go_ret
            rw [HV.out]
            exact ⟨rfl, HG.out.sub (by simp), _, K2, ho2, fun k hk => .inl hk⟩
          · have HV : Hid (vS (UA.map RT.abs) (UB.map RT.abs) l (p1, p2) (p1, q2) = none) := by unfold Hid vS; rw [hA, hb]; simp [h2]
            have hd : (p2 == q2) = false := by simpa using h2
            clear hA hb
            go_wp2
            go_ret
            rw [HV.out]
            exact ⟨rfl, HG.out⟩
        · have HV : Hid (vS (UA.map RT.abs) (UB.map RT.abs) l (p1, p2) (q1, q2) = none) := by unfold Hid vS; rw [hA, hb]; simp [h1]
          have hd : (p1 == q1) = false := by simpa using h1
          clear hA hb
          go_wp2
          go_ret
          rw [HV.out]
          exact ⟨rfl, HG.out⟩
      | some o =>
        obtain ⟨j, u, hpe, hu, rfl, hjl⟩ := thing_in hb
        simp only [Prod.mk.injEq] at hpe
        obtain ⟨rfl, rfl⟩ := hpe
        obtain rfl : m = (j : Int) := by rw [HM.out, hb]
        have HV : Hid (vS (UA.map RT.abs) (UB.map RT.abs) l (p1, p2) (2, (j : Int)) = none) := by unfold Hid vS; rw [hA, hb]
        have hj0 : decide ((j : Int) < 0) = false := by simp
        clear hb hA
        by_cases h1 : p1 = 2
        · subst h1
          go_wp2
          go_ret
          rw [HV.out]
          exact ⟨rfl, HG.out⟩
        · have hd : (p1 == 2) = false := by simpa using h1
          go_wp2
          go_ret
          rw [HV.out]
          exact ⟨rfl, HG.out⟩
    | some oa =>
      obtain ⟨i, u, hpe, hu, rfl, hil⟩ := thing_in hA
      simp only [Prod.mk.injEq] at hpe
      obtain ⟨rfl, rfl⟩ := hpe
      obtain rfl : n = (i : Int) := by rw [HN.out, hA]
      have hi0 : decide ((i : Int) < 0) = false := by simp
      cases hb : thingAt (UB.map RT.abs) (q1, q2) with
      | none =>
        obtain rfl : m = -1 := by rw [HM.out, hb]
        have HV : Hid (vS (UA.map RT.abs) (UB.map RT.abs) l (2, (i : Int)) (q1, q2) = none) := by unfold Hid vS; rw [hA, hb]
        clear hb hA
        by_cases h1 : q1 = 2
        · subst h1
          go_wp2
          go_ret
          rw [HV.out]
          exact ⟨rfl, HG.out⟩
        · have hd : ((2 : Int) == q1) = false := by simpa using fun h => h1 h.symm
          go_wp2
          go_ret
          rw [HV.out]
          exact ⟨rfl, HG.out⟩
      | some ob =>
        obtain ⟨j, u', hpe, hu', rfl, hjl⟩ := thing_in hb
        simp only [Prod.mk.injEq] at hpe
        obtain ⟨rfl, rfl⟩ := hpe
        obtain rfl : m = (j : Int) := by rw [HM.out, hb]
        have hj0 : decide ((j : Int) < 0) = false := by simp
        have HV : Hid (vS (UA.map RT.abs) (UB.map RT.abs) l (2, (i : Int)) (2, (j : Int)) = match sc l i j with | none => some (l ++ [((i : Int), (j : Int))]) | some true => some l | some false => none) := by unfold Hid vS; rw [hA, hb]; rfl
        have hlI : (l.length : Int) ≤ 1000000 := by omega
        clear hb hA
        go_wp2
        clear y0 y1 y2 y3 y4
        go_loopw [10, 47] (fun _ ix wr => ∃ k : Nat, k ≤ l.length ∧ ix = .int .i64 k ∧ Fr [] w2 wr ∧ Hid (sc (l.take k) i j = none)) (fun _ ix _ => l.length - (intOf ix).toNat)
        case atStart => exact ⟨0, Nat.zero_le _, rfl, Fr.refl _ _, by simp [sc, Hid]⟩
        case round =>
          obtain ⟨k, hk, rfl, fw, HS⟩ := hrel
          have how := own_fr ho2 fw (by simp)
          have Kw := K2.fr fw (by simp)
          have Gw : Hid (Fr [] w wr) := HG.out.trans fw
          by_cases hlt : k < l.length
          · have hx : l[k]? = some (l[k]'hlt) := List.getElem?_eq_getElem _
            have hcell : ∃ g, av = some ⟨g, 0, none⟩ ∧ wr.cell? ⟨g, k * 2, none⟩ = some (.int .i64 (l[k]'hlt).1) ∧ wr.cell? ⟨g, k * 2 + 1, none⟩ = some (.int .i64 (l[k]'hlt).2) := by
              have ha := flat_at _ _ _ hx
              obtain ⟨g, c, e, hc, _⟩ := own_cells how ha.1
              obtain ⟨g', c', e', hc', _⟩ := own_cells how ha.2
              injection e with e1
              injection e' with e1'
              rw [e1] at e1'
              injection e1' with e1'
              injection e1' with e1'
              subst e1'
              exact ⟨g, e1, hc, hc'⟩
            obtain ⟨g, rfl, z0, z1⟩ := hcell
            have HT : Hid (l.take (k + 1) = l.take k ++ [l[k]'hlt]) := by unfold Hid; rw [List.take_add_one, hx]; rfl
            have HD : Hid (l = l.take k ++ (l[k]'hlt) :: l.drop (k + 1)) := by
              unfold Hid
              rw [← List.drop_eq_getElem_cons, List.take_append_drop]
            generalize l[k]'hlt = t at *
            obtain ⟨t1, t2⟩ := t
            have HSC : Hid (∀ b, (t1 = (i : Int) ∨ t2 = (j : Int)) → decide (t1 = (i : Int) ∧ t2 = (j : Int)) = b → sc l i j = some b) := by
              intro b h1 h2
              rw [HD.out, sc_app, HS.out]
              simp only [sc]
              rw [if_pos h1, h2]
            have hkI : (k : Int) < (l.length : Int) := by omega
            have hkl2 : Hid (k < l.length) := hlt
            clear hx HD
            by_cases h1 : t1 = (i : Int)
            · subst h1
              by_cases h2 : t2 = (j : Int)
              · subst h2
                have HV2 : Hid (vS (UA.map RT.abs) (UB.map RT.abs) l (2, (i : Int)) (2, (j : Int)) = some l) := by unfold Hid; rw [HV.out, HSC.out true (.inl rfl) (by simp)]
                clear HSC
                go_wp2
                go_ret
                rw [HV2.out]
                have G3 := Gw.out.alloc (.cells #[.int .i64 (i : Int), .int .i64 (j : Int)] 72)
                have fa : Fr [] wr (wr.alloc (.cells #[.int .i64 (i : Int), .int .i64 (j : Int)] 72)) := (Fr.refl _ _).alloc _
                exact ⟨rfl, G3.sub (by simp), _, Kw.fr fa (by simp), own_fr how fa (by simp), fun k hk => .inl hk⟩
              · have HV2 : Hid (vS (UA.map RT.abs) (UB.map RT.abs) l (2, (i : Int)) (2, (j : Int)) = none) := by unfold Hid; rw [HV.out, HSC.out false (.inl rfl) (by simp [h2])]
                have hd2 : (t2 == (j : Int)) = false := by simpa using h2
                clear HSC
                go_wp2
                go_ret
                rw [HV2.out]
                exact ⟨rfl, Gw.out.alloc _⟩
            · have hd1 : (t1 == (i : Int)) = false := by simpa using h1
              by_cases h2 : t2 = (j : Int)
              · subst h2
                have HV2 : Hid (vS (UA.map RT.abs) (UB.map RT.abs) l (2, (i : Int)) (2, (j : Int)) = none) := by unfold Hid; rw [HV.out, HSC.out false (.inr rfl) (by simp [h1])]
                clear HSC
                go_wp2
                go_ret
                rw [HV2.out]
                exact ⟨rfl, Gw.out.alloc _⟩
              · have hd2 : (t2 == (j : Int)) = false := by simpa using h2
                have HS2 : Hid (sc (l.take (k + 1)) i j = none) := by
                  unfold Hid
                  rw [HT.out, sc_app, HS.out]
                  simp [sc, h1, h2]
                have fw2 := fw.alloc (.cells #[.int .i64 t1, .int .i64 t2] 72)
                clear HSC
                go_wp2
                go_roundw
                case rel => exact ⟨k + 1, by omega, by go_num, fw2, HS2⟩
                case measure => simp [intOf]; omega
          · have hke : k = l.length := by omega
            have HV2 : Hid (vS (UA.map RT.abs) (UB.map RT.abs) l (2, (i : Int)) (2, (j : Int)) = some (l ++ [((i : Int), (j : Int))])) := by
              have := HS.out
              rw [hke, List.take_length] at this
              unfold Hid
              rw [HV.out, this]
            have hlt' : ¬ (k : Int) < (l.length : Int) := by omega
            have hmx : l.length + 1 ≤ maxLen := by have : maxLen = 9223372036854775807 := rfl; omega
            have hmb : (l.length + 1) * 16 ≤ 140737488355328 := by omega
            have hBw : B0 ≤ wr.heap.size := by have := Gw.out.size; omega
            have z2 := Kw.c2
            have hwl := Gw.out.size
            clear hke HV HS fw K2 ho2
            go_wp2_with (at_builtin; go_loud (refine wpList_append_fp _ rfl _ _ 65 rfl B0 72 i72 (.agg #[.int .i64 0, .int .i64 0]) 2 16 under65 hi hz hs hby rfl (by decide) (.slice av l.length cv) l.length (flat l) rfl ?own _ 1 _ [.int .i64 (i : Int), .int .i64 (j : Int)] rfl rfl ?news ?one ?max ?byt ?base ?_))
            any_goals first
              | exact how.alloc _
              | exact cell_two_new wr _ _ 72
              | exact hmx
              | exact hmb
              | (simp [Value.oneCell']; done)
              | omega
              | (simp; omega)
            intro v3 w3 ho3 hg3 hk3
            have f3 : Fr (Value.slice av l.length cv).ownBlock.toList wr w3 := ((Fr.refl _ _).alloc _).trans ((Fr.ofGrown hg3).sub (fun k hk => .inl hk))
            have K3 := Kw.fr f3 (by simp only [Option.mem_toList]; exact own_ne how Kw (by decide))
            have ho3' : w3.ownsRow B0 72 2 v3 (l ++ [((i : Int), (j : Int))]).length (flat (l ++ [((i : Int), (j : Int))])) := by
              rw [List.length_append, flat_app]
              exact ho3
            have f4 : Fr [kp] w3 (w3.setCell ⟨kp, 2, none⟩ v3) := Fr.setCell (Fr.refl _ _) (.inl (by simp)) _
            have ho4 := own_fr ho3' f4 (fun k hk hm => by simp only [List.mem_singleton] at hm; subst hm; exact own_ne ho3 K3 (by decide) hk)
            have K4 := K3.set v3
            have F4 : Hid (Fr (kp :: (Value.slice av l.length cv).ownBlock.toList) w (w3.setCell ⟨kp, 2, none⟩ v3)) :=
              ((Gw.out.sub (by simp)).trans (f3.sub (fun k hk => .inl (by simp [hk])))).trans (f4.sub (fun k hk => .inl (by simp only [List.mem_singleton] at hk; simp [hk])))
            have HK : Hid (∀ k, v3.ownBlock = some k → (Value.slice av l.length cv).ownBlock = some k ∨ w.heap.size ≤ k) := fun k hk => by
              rcases hk3 k hk with h1 | h1
              · exact .inl h1
              · exact .inr (by first | omega | (simp at h1; omega))
            have z3 := K3.c2
            have z4 := K3.froz
            obtain ⟨a3, c3, hv3, _⟩ := own_slice ho3
            subst hv3
            clear hg3 hk3 ho3 ho3' f3 f4 Kw how
            go_wp2
            go_ret
            rw [HV2.out]
            exact ⟨rfl, F4.out, _, K4, ho4, HK.out⟩
end Go.Proofs.YtefkcmeeagflmaaDoor
