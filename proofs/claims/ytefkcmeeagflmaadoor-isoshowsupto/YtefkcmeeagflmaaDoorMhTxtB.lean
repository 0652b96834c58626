/-
  The document's text of a value, as the document's recursion; conditions: things are few, numbers are of 64 bits, the library's table lies as told.
-/
import Derived.Test.YtefkcmeeagflmaaDoorMhTxtA
namespace Go.Proofs.YtefkcmeeagflmaaDoor
open Go.RowKit
set_option linter.unusedVariables false
set_option linter.unusedSimpArgs false

/-- What a call of the text leaves. -/
def Txt (w : World) (kt b : Nat) (vo : Value) (t : List UInt8 × List Int) (e : Ending) (w' : World) : Prop :=
  e = .returned (.string (bt t.1)) ∧ TS w' kt b vo t.2.length ∧ Fr [kt] w w'

set_option maxRecDepth 100000 in
set_option maxHeartbeats 8000000 in
theorem value_any {Bh b kt Bo : Nat} {lim used : Int} {svh vo : Value} {rk rn : Int} {U : List RT} {pl : List Int} (hkt : 3 ≤ kt) (hU : ∀ u, u ∈ U → u.cells.length ≤ 1000000) (hUl : U.length ≤ 1000000) (hUw : wfA (U.map RT.abs)) (hpl : pl.length ≤ 1000000) : ∀ (fu : Nat) (w : World) (p : Int × Int) (out r : List Int), RRep w Bh b lim used svh rk rn U → w.ownsRow Bo 2 1 vo pl.length (pl.map (Value.int .i64)) → TS w kt b vo out.length → Pw w → (Lit.int .i64 p.2).wf = true → pl = (valR (U.map RT.abs) fu p out).2 ++ r → out.length + lft (fun _ => 1) (U.map RT.abs) out ≤ 1000000 → lft wt2 (U.map RT.abs) out ≤ 1000000 → lft (fun _ => 1) (U.map RT.abs) out < fu →
    Calls Tryd.prog 36 #[.pointer (some ⟨kt, 0, none⟩), .agg #[.int .i64 p.1, .int .i64 p.2]] w (Txt w kt b vo (valR (U.map RT.abs) fu p out))
  | 0, w, p, out, r, _, _, _, _, _, _, _, _, h => by omega
  | fu + 1, w, (pk, pn), out, r, R, ho, TK, PW, hwp, hp, hsz, hsz2, hf => by
    obtain ⟨av, cv, rfl, _⟩ := own_slice ho
    have f0 : Fr [] w (w.alloc (.cells #[.int .i64 pk, .int .i64 pn] 45)) := (Fr.refl _ _).alloc _
    have B1 : (w.alloc (.cells #[.int .i64 pk, .int .i64 pn] 45)).heap[w.heap.size]? = some (.cells #[.int .i64 pk, .int .i64 pn] 45 (0, 0)) := heap_alloc_new w _
    have hktl := (Array.getElem?_eq_some_iff.1 TK).1
    go_enter Tryd.func36, Tryd.ntmps36
    have HB : Hid (w.heap.size < (w.alloc (.cells #[.int .i64 pk, .int .i64 pn] 45)).heap.size) := by unfold Hid; simp
    generalize hw0 : w.alloc (.cells #[.int .i64 pk, .int .i64 pn] 45) = w0 at *
    have R0 := R.frame f0 (by simp)
    have ho0 := own_fr ho f0 (by simp)
    have T0 := TK.fr f0 (by simp)
    have P0 := PW.fr f0 (by simp)
    obtain ⟨kb, hkb⟩ : ∃ kb, w.heap.size = kb := ⟨_, rfl⟩
    rw [hkb] at B1 HB
    have b0 : ∀ w' : World, Fr [] w0 w' → w'.cell? ⟨kb, 0, none⟩ = some (.int .i64 pk) := fun w' h => at_cells ((h.block _ HB.out (by simp)).trans B1) 0 rfl
    have b1 : ∀ w' : World, Fr [] w0 w' → w'.cell? ⟨kb, 1, none⟩ = some (.int .i64 pn) := fun w' h => at_cells ((h.block _ HB.out (by simp)).trans B1) 1 rfl
    have x0 : ∀ w' : World, Fr [] w0 w' → w'.cell? ⟨kt, 0, none⟩ = some (.pointer (some ⟨b, 0, none⟩)) := fun w' h => (T0.fr h (by simp)).c0
    have HD : ∀ w' : World, Fr [] w0 w' → Fr [] w0 w'.drew := fun w' h => h.drew
    have RF : Fr [] w0 w0 := Fr.refl _ _
    have HP : Hid (pl = (valR (U.map RT.abs) (fu + 1) (pk, pn) out).2 ++ r) := hp
    clear hp
    by_cases hk0 : pk = 0
    · subst hk0
      have HV : Hid (valR (U.map RT.abs) (fu + 1) (0, pn) out = (Lib.itoa pn, out)) := by
        unfold Hid; rw [valR]; simp [thingAt, plainB]
      go_wp2_with fail
      refine (format_any pn hwp w0 P0).mono ?_
      rintro e w1 ⟨rfl, f1⟩
      have T1 := T0.fr f1 (by simp)
      have F1 : Fr [kt] w w1 := (f0.trans f1).sub (by simp)
      generalize hS : bt (Lib.itoa pn) = S
      go_wp2
      go_ret
      refine ⟨?_, ?_, F1⟩
      · rw [HV.out, hS]; rfl
      · rw [HV.out]; exact T1
    · have hd0 : (pk == 0) = false := by simpa using hk0
      by_cases hk1 : pk = 1 ∧ pn = 0
      · obtain ⟨rfl, rfl⟩ := hk1
        have HV : Hid (valR (U.map RT.abs) (fu + 1) (1, 0) out = ([110, 117, 108, 108], out)) := by
          unfold Hid; rw [valR]; simp [thingAt, plainB]
        have F1 : Fr [kt] w w0 := f0.sub (by simp)
        go_wp2
        go_ret
        refine ⟨?_, ?_, F1⟩
        · rw [HV.out]; rfl
        · rw [HV.out]; exact T0
      · cases ht : thingAt (U.map RT.abs) (pk, pn) with
        | none =>
          have HV : Hid (valR (U.map RT.abs) (fu + 1) (pk, pn) out = ([63], out)) := by
            unfold Hid; rw [valR, ht]; simp only [plainB, if_neg hk0, Prod.mk.injEq, if_neg hk1]
          have CA : ∀ w', Fr [] w0 w' → Calls Tryd.prog 37 #[.pointer (some ⟨b, 0, none⟩), .agg #[.int .i64 pk, .int .i64 pn]] w' fun e w'' => e = .returned (.int .i64 (-1)) ∧ Fr [] w' w'' := fun w' h => At_bad (R0.frame h (by simp)) pk pn (thing_out ht)
          by_cases h1 : pk = 1
          · subst h1
            have hd3 : (pn == 0) = false := by simpa using hk1
            go_wp2_with fail
            go_region_held3 (fun w' : World => Fr [] w0 w')
              (with_reducible (first | assumption | exact HD _ (by assumption)))
              (first
                | (go_at_call 37; refine (CA _ (by assumption)).mono ?_; rintro e w1 ⟨rfl, f1⟩; have F1 := Fr.trans (by assumption) f1))
            all_goals
              have T1 := T0.fr F1 (by simp)
              have G1 : Fr [kt] w w1 := (f0.trans F1).sub (by simp)
              clear CA b0 b1 x0 HD
              go_wp2
              go_ret
              refine ⟨?_, ?_, G1⟩
              · rw [HV.out]; rfl
              · rw [HV.out]; exact T1
          · have hd3 : (pk == 1) = false := by simpa using h1
            go_wp2_with fail
            go_region_held3 (fun w' : World => Fr [] w0 w')
              (with_reducible (first | assumption | exact HD _ (by assumption)))
              (first
                | (go_at_call 37; refine (CA _ (by assumption)).mono ?_; rintro e w1 ⟨rfl, f1⟩; have F1 := Fr.trans (by assumption) f1))
            all_goals
              have T1 := T0.fr F1 (by simp)
              have G1 : Fr [kt] w w1 := (f0.trans F1).sub (by simp)
              clear CA b0 b1 x0 HD
              go_wp2
              go_ret
              refine ⟨?_, ?_, G1⟩
              · rw [HV.out]; rfl
              · rw [HV.out]; exact T1
        | some o =>
          obtain ⟨i, u, hpe, hu, rfl, hil⟩ := thing_in ht
          simp only [Prod.mk.injEq] at hpe
          obtain ⟨rfl, rfl⟩ := hpe
          have CA : ∀ w', Fr [] w0 w' → Calls Tryd.prog 37 #[.pointer (some ⟨b, 0, none⟩), .agg #[.int .i64 2, .int .i64 (i : Int)]] w' fun e w'' => e = .returned (.int .i64 (i : Int)) ∧ Fr [] w' w'' := fun w' h => At_ok (R0.frame h (by simp)) (i : Int) (by omega) (by omega)
          go_wp2_with fail
          go_region_held3 (fun w' : World => Fr [] w0 w')
            (with_reducible (first | assumption | exact HD _ (by assumption)))
            (first
              | (go_at_call 37; refine (CA _ (by assumption)).mono ?_; rintro e w1 ⟨rfl, f1⟩; have F1 := Fr.trans (by assumption) f1))
          all_goals
            have T1 := T0.fr F1 (by simp)
            have R1 := R0.frame F1 (by simp)
            have ho1 := own_fr ho0 F1 (by simp)
            have P1 := P0.fr F1 (by simp)
            have G1 : Fr [] w w1 := f0.trans F1
            clear CA b0 b1 x0 HD T0 R0 ho0 P0 f1 F1
            have hi0 : decide ((i : Int) < 0) = false := by simp
            have y1 := T1.c1
            go_wp2_with fail
            refine (find_any w1 pl _ Bo ho1 hpl (i : Int)).mono ?_
            rintro e w2 ⟨rfl, f2⟩
            have T2 := T1.fr f2 (by simp)
            have R2 := R1.frame f2 (by simp)
            have ho2 := own_fr ho1 f2 (by simp)
            have P2 := P1.fr f2 (by simp)
            have G2 : Fr [] w w2 := G1.trans f2
            clear T1 R1 ho1 P1 y1 f2 G1
            cases hix : idx out (i : Int) with
            | some k =>
              have HV : Hid (valR (U.map RT.abs) (fu + 1) (2, (i : Int)) out = (64 :: Lib.itoa k, out)) := by unfold Hid; rw [valR, ht]; simp only [hix]
              have hkl := (List.getElem?_eq_some_iff.1 (idx_at hix)).1
              have hfk : fnd pl (i : Int) = (k : Int) := by rw [HP.out, HV.out]; exact fnd_pre hix
              rw [hfk]
              have hwk : (Lit.int .i64 (k : Int)).wf = true := wf_small (by omega) (by omega)
              have hil := itoa_len hwk
              have hkI : (k : Int) < (out.length : Int) := by omega
              go_wp2_with fail
              refine (itoa_any (k : Int) hwk w2 P2).mono ?_
              rintro e w3 ⟨rfl, f3⟩
              have T3 := T2.fr f3 (by simp)
              have G3 : Fr [kt] w w3 := (G2.trans f3).sub (by simp)
              have hsz : (bt (Lib.itoa (k : Int))).size ≤ 21 := by rw [bt_size]; exact hil
              have HE : Hid ((⟨#[64]⟩ : ByteArray) ++ bt (Lib.itoa (k : Int)) = bt (64 :: Lib.itoa k)) := at64 _
              generalize bt (Lib.itoa (k : Int)) = S at *
              have q1 : ¬ 9223372036854775807 < 1 + S.size := by omega
              have y2 := T3.c2
              clear hfk
              go_wp2
              go_ret
              refine ⟨?_, ?_, G3⟩
              · rw [HV.out, ← HE.out]; rfl
              · rw [HV.out]; exact T3
            | none =>
              have h1 := lft_one (fun _ => 1) ht hix
              have h2 := lft_one wt2 ht hix
              obtain ⟨tx, htx⟩ : ∃ tx, tx = lstR (valR (U.map RT.abs) fu) (sep0 u.sort) u.cells (out ++ [(i : Int)]) := ⟨_, rfl⟩
              have HV : Hid (valR (U.map RT.abs) (fu + 1) (2, (i : Int)) out = (64 :: Lib.itoa out.length ++ opn u.sort ++ tx.1 ++ cls u.sort, tx.2)) := by
                unfold Hid
                rw [valR, ht]
                simp only [hix, htx]
                rfl
              have HTX : Hid (tx = lstR (valR (U.map RT.abs) fu) (sep0 u.sort) u.cells (out ++ [(i : Int)])) := htx
              clear htx
              have hfk : fnd pl (i : Int) = (out.length : Int) := by
                obtain ⟨q, hq⟩ := lst_pre (val_pre (U.map RT.abs) fu) (sep0 u.sort) u.cells (out ++ [(i : Int)])
                rw [HP.out, HV.out, HTX.out, hq, List.append_assoc]
                refine fnd_pre ?_
                rw [idx_one, hix]
                simp
              rw [hfk]
              have hwk : (Lit.int .i64 (out.length : Int)).wf = true := wf_small (by omega) (by omega)
              have hil2 := itoa_len hwk
              go_wp2_with fail
              refine (itoa_any (out.length : Int) hwk w2 P2).mono ?_
              rintro e w3 ⟨rfl, f3⟩
              have T3 := T2.fr f3 (by simp)
              have R3 := R2.frame f3 (by simp)
              have ho3 := own_fr ho2 f3 (by simp)
              have P3 := P2.fr f3 (by simp)
              have G3 : Fr [] w w3 := G2.trans f3
              have hsz : (bt (Lib.itoa (out.length : Int))).size ≤ 21 := by rw [bt_size]; exact hil2
              have HE : Hid ((⟨#[64]⟩ : ByteArray) ++ bt (Lib.itoa (out.length : Int)) = bt (64 :: Lib.itoa (out.length : Int))) := at64 _
              generalize bt (Lib.itoa (out.length : Int)) = S at *
              have q1 : ¬ 9223372036854775807 < 1 + S.size := by omega
              have y2 := T3.c2
              have y3 := T3.froz
              have T4 := T3.set
              have f4 : Fr [kt] w3 (w3.setCell ⟨kt, 2, none⟩ (.int .i64 ((out.length : Int) + 1))) := Fr.setCell (Fr.refl _ _) (.inl (by simp)) _
              have R4 := rrep_kt R3 T3 f4
              have ho4 := own_kt ho3 T3 f4
              have P4 := P3.fr f4 (by simp; exact hkt)
              have G4 : Fr [kt] w (w3.setCell ⟨kt, 2, none⟩ (.int .i64 ((out.length : Int) + 1))) := (G3.sub (by simp)).trans f4
              obtain ⟨gs, cs, a4, c4, hsv, hsl, hrd⟩ := R4.reads hu
              obtain ⟨r0, r1, r2⟩ := hrd _ (Fr.refl _ _)
              have y4 := T4.c0
              have hul := hU u (List.mem_of_getElem? hu)
              have hil3 : (i : Int) < (U.length : Int) := by omega
              have hulI : (u.cells.length : Int) ≤ 1000000 := by omega
              have hUlI : (U.length : Int) ≤ 1000000 := by omega
              have houtI : (out.length : Int) ≤ 1000000 := by omega
              have hus := (hUw.at ht).1
              have huc := (hUw.at ht).2
              simp only [RT.abs] at hus huc
              have f5 : Fr [] (w3.setCell ⟨kt, 2, none⟩ (.int .i64 ((out.length : Int) + 1))) ((w3.setCell ⟨kt, 2, none⟩ (.int .i64 ((out.length : Int) + 1))).alloc (.cells #[.int .i64 u.sort, .slice a4 u.cells.length c4] 41)) := (Fr.refl _ _).alloc _
              have T5 := T4.fr f5 (by simp)
              have R5 := R4.frame f5 (by simp)
              have ho5 := own_fr ho4 f5 (by simp)
              have P5 := P4.fr f5 (by simp)
              have F5 := G4.trans (f5.sub (T := [kt]) (by simp))
              have hop := opn_len hus
              have RFk := rf hUw (fu := fu) (sep := sep0 u.sort) (xs := u.cells) (o1 := out ++ [(i : Int)]) (pl := pl) (r := r) (by unfold sep0; split <;> simp) huc hul (by rw [HP.out, HV.out, HTX.out]) (by simp only [List.length_append, List.length_singleton]; omega) (by omega) (by omega)
              have Hlies : Hid (∀ w', RRep w' Bh b lim used svh rk rn U → ∀ (k : Nat) (x : Int × Int), u.cells[k]? = some x → ∃ g o, a4 = some ⟨g, o, none⟩ ∧ w'.cell? ⟨g, o + k * 2, none⟩ = some (.int .i64 x.1) ∧ w'.cell? ⟨g, o + k * 2 + 1, none⟩ = some (.int .i64 x.2)) := fun w' R' k x hx => by
                have hth := R'.th u (List.mem_of_getElem? hu)
                rw [hsl] at hth
                have ha := flat_at _ _ _ hx
                obtain ⟨g, c, e, hc, _⟩ := own_cells hth ha.1
                obtain ⟨g', c', e', hc', _⟩ := own_cells hth ha.2
                injection e with e1
                injection e' with e1'
                rw [e1] at e1'
                injection e1' with e1'
                injection e1' with e1'
                subst e1'
                exact ⟨g, 0, e1, by rw [Nat.zero_add]; exact hc, by rw [Nat.zero_add]; exact hc'⟩
              have HLS : Hid (∀ k, (lstR (valR (U.map RT.abs) fu) (sep0 u.sort) (u.cells.take k) (out ++ [(i : Int)])).1.length ≤ 400000000) := fun k => (RFk k).1
              clear hrd hfk R3 ho3 P3 G3 T2 R2 ho2 P2 G2 f3 hix f4 f5 ht hsz2 hsl hsv
              by_cases hr : u.sort < 0
              · have hr' : decide (u.sort < 0) = true := by simpa using hr
                have hsep : sep0 u.sort = [] := by unfold sep0; rw [if_pos hr]
                have HPre : Hid ((⟨#[64]⟩ : ByteArray) ++ S ++ ⟨#[91]⟩ = bt (64 :: Lib.itoa out.length ++ opn u.sort)) := by
                  unfold Hid
                  rw [HE.out, show (⟨#[91]⟩ : ByteArray) = bt (opn u.sort) by (unfold opn; rw [if_pos hr]; rfl), bt_app]
                have hPl : (64 :: Lib.itoa out.length ++ opn u.sort).length ≤ 100 := by simp only [List.length_append, List.length_cons]; omega
                have HC : Hid ((⟨#[93]⟩ : ByteArray) = bt (cls u.sort)) := by unfold Hid cls; rw [if_pos hr]; rfl
                have q2 : ¬ 9223372036854775807 < 1 + S.size + 1 := by omega
                go_wp2
                clear q1 q2 y2 y3 y4 T3 T4 R4 ho4 P4 G4 r0 r1 r2
                generalize (w3.setCell ⟨kt, 2, none⟩ (.int .i64 ((out.length : Int) + 1))).alloc (.cells #[.int .i64 u.sort, .slice a4 u.cells.length c4] 41) = w5 at *
                generalize hPr : 64 :: Lib.itoa out.length ++ opn u.sort = Pr at *
                rw [hsep] at RFk
                have HRF : Hid (sep0 u.sort = []) := hsep
                clear hPr hsep
                generalize hlo : out ++ [(i : Int)] = o1 at *
                have T5' : TS w5 kt b (.slice av pl.length cv) o1.length := by rw [← hlo, List.length_append]; exact T5
                clear T5
                go_loopw [7, 9, 10, 76] (fun s _ _ ix wr => ∃ (k : Nat) (S' : ByteArray), k ≤ u.cells.length ∧ ix = .int .i64 k ∧ s = .string S' ∧ Hid (S' = bt (Pr ++ (lstR (valR (U.map RT.abs) fu) [] (u.cells.take k) o1).1)) ∧ TS wr kt b (.slice av pl.length cv) (lstR (valR (U.map RT.abs) fu) [] (u.cells.take k) o1).2.length ∧ Fr [kt] w wr ∧ RRep wr Bh b lim used svh rk rn U ∧ wr.ownsRow Bo 2 1 (.slice av pl.length cv) pl.length (pl.map (Value.int .i64)) ∧ Pw wr) (fun _ _ _ ix _ => u.cells.length - (intOf ix).toNat)
                case atStart => exact ⟨0, _, Nat.zero_le _, rfl, rfl, by unfold Hid; rw [HPre.out]; simp [lstR], T5', F5, R5, ho5, P5⟩
                case round =>
                  obtain ⟨k, S', hk, rfl, rfl, HS', Tw, Fw, Rw, how, Pw'⟩ := hrel
                  by_cases hlt : k < u.cells.length
                  · have hx : u.cells[k]? = some (u.cells[k]'hlt) := List.getElem?_eq_getElem _
                    obtain ⟨g, o, rfl, x0, x1⟩ := Hlies.out wr Rw k _ hx
                    obtain ⟨hl1, hl2⟩ := RFk k
                    obtain ⟨r', z1, z2, z3, z4, z5, z6, z7⟩ := hl2 _ hx
                    generalize u.cells[k]'hlt = x at *
                    generalize lstR (valR (U.map RT.abs) fu) [] (u.cells.take k) o1 = lk at *
                    have hkI : (k : Int) < (u.cells.length : Int) := by omega
                    have fb : Fr [] wr (wr.alloc (.cells #[.int .i64 x.1, .int .i64 x.2] 45)) := (Fr.refl _ _).alloc _
                    have C := value_any hkt hU hUl hUw hpl fu (wr.alloc (.cells #[.int .i64 x.1, .int .i64 x.2] 45)) x lk.2 r' (Rw.frame fb (by simp)) (own_fr how fb (by simp)) (Tw.fr fb (by simp)) (Pw'.fr fb (by simp)) z7 z1 z2 z3 z4
                    have Fb : Fr [kt] w (wr.alloc (.cells #[.int .i64 x.1, .int .i64 x.2] 45)) := Fw.trans (fb.sub (by simp))
                    have Tb := Tw.fr fb (by simp)
                    have Rb := Rw.frame fb (by simp)
                    have hob := own_fr how fb (by simp)
                    have Pb := Pw'.fr fb (by simp)
                    have Z5 : Hid (lstR (valR (U.map RT.abs) fu) [] (u.cells.take (k + 1)) o1 = (lk.1 ++ (if k = 0 then [] else [32]) ++ (valR (U.map RT.abs) fu x lk.2).1, (valR (U.map RT.abs) fu x lk.2).2)) := z5
                    have hS1 : S'.size ≤ 500000000 := by rw [HS'.out, bt_size, List.length_append]; omega
                    have q1 : ¬ 9223372036854775807 < S'.size + 1 := by omega
                    have hT1 : (bt (valR (U.map RT.abs) fu x lk.2).1).size ≤ 400000000 := by rw [bt_size]; exact z6
                    clear hl1 hl2 hx z1 z2 z3 z4 z5 z6 z7 Tw Rw how Pw' Fw fb RFk
                    by_cases hk0' : k = 0
                    · subst hk0'
                      simp only [Nat.zero_mul, Nat.add_zero] at x0 x1
                      go_wp2_with fail
                      refine C.mono ?_
                      rintro e w6 ⟨rfl, T6, f6⟩
                      have F6 := Fb.trans f6
                      have R6 := rrep_kt Rb Tb f6
                      have ho6 := own_kt hob Tb f6
                      have P6 := Pb.fr f6 (by simp; exact hkt)
                      have HN : Hid (S' ++ bt (valR (U.map RT.abs) fu x lk.2).1 = bt (Pr ++ (lstR (valR (U.map RT.abs) fu) [] (u.cells.take (0 + 1)) o1).1)) := by
                        unfold Hid
                        rw [HS'.out, bt_app, Z5.out]
                        simp
                      generalize bt (valR (U.map RT.abs) fu x lk.2).1 = T at *
                      have q3 : ¬ 9223372036854775807 < S'.size + T.size := by omega
                      clear C Fb Tb Rb hob Pb f6 x0 x1
                      go_wp2
                      go_roundw
                      case rel => exact ⟨0 + 1, _, by omega, by go_num, rfl, HN, by rw [Z5.out]; exact T6, F6, R6, ho6, P6⟩
                      case measure => simp [intOf]; omega
                    · have hkp : (0 : Int) < (k : Int) := by omega
                      go_wp2_with fail
                      refine C.mono ?_
                      rintro e w6 ⟨rfl, T6, f6⟩
                      have F6 := Fb.trans f6
                      have R6 := rrep_kt Rb Tb f6
                      have ho6 := own_kt hob Tb f6
                      have P6 := Pb.fr f6 (by simp; exact hkt)
                      have HN : Hid (S' ++ ⟨#[32]⟩ ++ bt (valR (U.map RT.abs) fu x lk.2).1 = bt (Pr ++ (lstR (valR (U.map RT.abs) fu) [] (u.cells.take (k + 1)) o1).1)) := by
                        unfold Hid
                        rw [HS'.out, show (⟨#[32]⟩ : ByteArray) = bt [32] from rfl, bt_app, bt_app, Z5.out]
                        simp [hk0']
                      generalize bt (valR (U.map RT.abs) fu x lk.2).1 = T at *
                      have q3 : ¬ 9223372036854775807 < S'.size + 1 + T.size := by omega
                      clear C Fb Tb Rb hob Pb f6 x0 x1
                      go_wp2
                      go_roundw
                      case rel => exact ⟨k + 1, _, by omega, by go_num, rfl, HN, by rw [Z5.out]; exact T6, F6, R6, ho6, P6⟩
                      case measure => simp [intOf]; omega
                  · have hke : k = u.cells.length := by omega
                    have HEE : Hid (lstR (valR (U.map RT.abs) fu) [] (u.cells.take k) o1 = tx) := by unfold Hid; rw [hke, List.take_length, HTX.out, HRF.out]
                    rw [HEE.out] at HS' Tw
                    have hlt' : ¬ (k : Int) < (u.cells.length : Int) := by omega
                    have hS1 : S'.size ≤ 500000000 := by
                      have := HLS.out k
                      rw [HRF.out, HEE.out] at this
                      rw [HS'.out, bt_size, List.length_append]; omega
                    have q1 : ¬ 9223372036854775807 < S'.size + 1 := by omega
                    have HF : Hid (Fr [kt] w wr) := Fw
                    have HT : Hid (TS wr kt b (.slice av pl.length cv) tx.2.length) := Tw
                    clear Tw Fw Rw how Pw' RFk HLS Hlies hke
                    go_wp2
                    go_ret
                    refine ⟨?_, ?_, HF.out⟩
                    · rw [HV.out]
                      show _ = Ending.returned (.string (bt (Pr ++ tx.1 ++ cls u.sort)))
                      rw [← bt_app, ← HS'.out, ← HC.out]
                      rfl
                    · rw [HV.out]; exact HT.out
              · have hr' : decide (u.sort < 0) = false := by simpa using hr
                have hsep : sep0 u.sort = [32] := by unfold sep0; rw [if_neg hr]
                have HC : Hid ((⟨#[125]⟩ : ByteArray) = bt (cls u.sort)) := by unfold Hid cls; rw [if_neg hr]; rfl
                have hPl : (64 :: Lib.itoa out.length ++ opn u.sort).length ≤ 100 := by simp only [List.length_append, List.length_cons]; omega
                have z41 : ((w3.setCell ⟨kt, 2, none⟩ (.int .i64 ((out.length : Int) + 1))).alloc (.cells #[.int .i64 u.sort, .slice a4 u.cells.length c4] 41)).heap[w3.heap.size]? = some (.cells #[.int .i64 u.sort, .slice a4 u.cells.length c4] 41 (0, 0)) := by
                  have := heap_alloc_new (w3.setCell ⟨kt, 2, none⟩ (.int .i64 ((out.length : Int) + 1))) (.cells #[.int .i64 u.sort, .slice a4 u.cells.length c4] 41)
                  simpa using this
                go_wp2_with fail
                refine (itoa_any u.sort hus _ P5).mono ?_
                rintro e w6 ⟨rfl, f6⟩
                have y6 := at_cells ((f6.block _ (Array.getElem?_eq_some_iff.1 z41).1 (by simp)).trans z41) 1 (u := .slice a4 u.cells.length c4) rfl
                have T6 := T5.fr f6 (by simp)
                have R6 := R5.frame f6 (by simp)
                have ho6 := own_fr ho5 f6 (by simp)
                have P6 := P5.fr f6 (by simp)
                have F6 := F5.trans (f6.sub (T := [kt]) (by simp))
                have HPre : Hid ((⟨#[64]⟩ : ByteArray) ++ S ++ (⟨#[123]⟩ ++ bt (Lib.itoa u.sort)) = bt (64 :: Lib.itoa out.length ++ opn u.sort)) := by
                  unfold Hid
                  rw [HE.out, opn_eq _ (by omega), bt_app]
                have hS2 : (bt (Lib.itoa u.sort)).size ≤ 21 := by rw [bt_size]; exact itoa_len hus
                generalize bt (Lib.itoa u.sort) = S2 at *
                have q2 : ¬ 9223372036854775807 < 1 + S2.size := by omega
                have q3 : ¬ 9223372036854775807 < 1 + S.size + (1 + S2.size) := by omega
                clear q1 y2 y3 y4 T3 T4 R4 ho4 P4 G4 r0 r1 r2 T5 R5 ho5 P5 F5 f6 z41
                go_wp2
                generalize hPr : 64 :: Lib.itoa out.length ++ opn u.sort = Pr at *
                rw [hsep] at RFk
                have HRF : Hid (sep0 u.sort = [32]) := hsep
                clear hPr hsep q2 q3 y6
                generalize hlo : out ++ [(i : Int)] = o1 at *
                have T6' : TS w6 kt b (.slice av pl.length cv) o1.length := by rw [← hlo, List.length_append]; exact T6
                clear T6
                go_loopw [7, 12, 102] (fun s _ ix wr => ∃ (k : Nat) (S' : ByteArray), k ≤ u.cells.length ∧ ix = .int .i64 k ∧ s = .string S' ∧ Hid (S' = bt (Pr ++ (lstR (valR (U.map RT.abs) fu) [32] (u.cells.take k) o1).1)) ∧ TS wr kt b (.slice av pl.length cv) (lstR (valR (U.map RT.abs) fu) [32] (u.cells.take k) o1).2.length ∧ Fr [kt] w wr ∧ RRep wr Bh b lim used svh rk rn U ∧ wr.ownsRow Bo 2 1 (.slice av pl.length cv) pl.length (pl.map (Value.int .i64)) ∧ Pw wr) (fun _ _ ix _ => u.cells.length - (intOf ix).toNat)
                case atStart => exact ⟨0, _, Nat.zero_le _, rfl, rfl, by unfold Hid; rw [HPre.out]; simp [lstR], T6', F6, R6, ho6, P6⟩
                case round =>
                  obtain ⟨k, S', hk, rfl, rfl, HS', Tw, Fw, Rw, how, Pw'⟩ := hrel
                  by_cases hlt : k < u.cells.length
                  · have hx : u.cells[k]? = some (u.cells[k]'hlt) := List.getElem?_eq_getElem _
                    obtain ⟨g, o, rfl, x0, x1⟩ := Hlies.out wr Rw k _ hx
                    obtain ⟨hl1, hl2⟩ := RFk k
                    obtain ⟨r', z1, z2, z3, z4, z5, z6, z7⟩ := hl2 _ hx
                    generalize u.cells[k]'hlt = x at *
                    generalize lstR (valR (U.map RT.abs) fu) [32] (u.cells.take k) o1 = lk at *
                    have hkI : (k : Int) < (u.cells.length : Int) := by omega
                    have fb : Fr [] wr (wr.alloc (.cells #[.int .i64 x.1, .int .i64 x.2] 45)) := (Fr.refl _ _).alloc _
                    have C := value_any hkt hU hUl hUw hpl fu (wr.alloc (.cells #[.int .i64 x.1, .int .i64 x.2] 45)) x lk.2 r' (Rw.frame fb (by simp)) (own_fr how fb (by simp)) (Tw.fr fb (by simp)) (Pw'.fr fb (by simp)) z7 z1 z2 z3 z4
                    have Fb : Fr [kt] w (wr.alloc (.cells #[.int .i64 x.1, .int .i64 x.2] 45)) := Fw.trans (fb.sub (by simp))
                    have Tb := Tw.fr fb (by simp)
                    have Rb := Rw.frame fb (by simp)
                    have hob := own_fr how fb (by simp)
                    have Pb := Pw'.fr fb (by simp)
                    have Z5 : Hid (lstR (valR (U.map RT.abs) fu) [32] (u.cells.take (k + 1)) o1 = (lk.1 ++ (if k = 0 then [32] else [32]) ++ (valR (U.map RT.abs) fu x lk.2).1, (valR (U.map RT.abs) fu x lk.2).2)) := z5
                    have hS1 : S'.size ≤ 500000000 := by rw [HS'.out, bt_size, List.length_append]; omega
                    have hT1 : (bt (valR (U.map RT.abs) fu x lk.2).1).size ≤ 400000000 := by rw [bt_size]; exact z6
                    clear hl1 hl2 hx z1 z2 z3 z4 z5 z6 z7 Tw Rw how Pw' Fw fb RFk
                    go_wp2_with fail
                    refine C.mono ?_
                    rintro e w7 ⟨rfl, T7, f7⟩
                    have F7 := Fb.trans f7
                    have R7 := rrep_kt Rb Tb f7
                    have ho7 := own_kt hob Tb f7
                    have P7 := Pb.fr f7 (by simp; exact hkt)
                    have HN : Hid (S' ++ (⟨#[32]⟩ ++ bt (valR (U.map RT.abs) fu x lk.2).1) = bt (Pr ++ (lstR (valR (U.map RT.abs) fu) [32] (u.cells.take (k + 1)) o1).1)) := by
                      unfold Hid
                      rw [HS'.out, show (⟨#[32]⟩ : ByteArray) = bt [32] from rfl, bt_app, bt_app, Z5.out]
                      simp
                    generalize bt (valR (U.map RT.abs) fu x lk.2).1 = T at *
                    have q3 : ¬ 9223372036854775807 < 1 + T.size := by omega
                    have q4 : ¬ 9223372036854775807 < S'.size + (1 + T.size) := by omega
                    clear C Fb Tb Rb hob Pb f7 x0 x1
                    go_wp2
                    go_roundw
                    case rel => exact ⟨k + 1, _, by omega, by go_num, rfl, HN, by rw [Z5.out]; exact T7, F7, R7, ho7, P7⟩
                    case measure => simp [intOf]; omega
                  · have hke : k = u.cells.length := by omega
                    have HEE : Hid (lstR (valR (U.map RT.abs) fu) [32] (u.cells.take k) o1 = tx) := by unfold Hid; rw [hke, List.take_length, HTX.out, HRF.out]
                    rw [HEE.out] at HS' Tw
                    have hlt' : ¬ (k : Int) < (u.cells.length : Int) := by omega
                    have hS1 : S'.size ≤ 500000000 := by
                      have := HLS.out k
                      rw [HRF.out, HEE.out] at this
                      rw [HS'.out, bt_size, List.length_append]; omega
                    have q1 : ¬ 9223372036854775807 < S'.size + 1 := by omega
                    have HF : Hid (Fr [kt] w wr) := Fw
                    have HT : Hid (TS wr kt b (.slice av pl.length cv) tx.2.length) := Tw
                    clear Tw Fw Rw how Pw' RFk HLS Hlies hke
                    go_wp2
                    go_ret
                    refine ⟨?_, ?_, HF.out⟩
                    · rw [HV.out]
                      show _ = Ending.returned (.string (bt (Pr ++ tx.1 ++ cls u.sort)))
                      rw [← bt_app, ← HS'.out, ← HC.out]
                      rfl
                    · rw [HV.out]; exact HT.out
end Go.Proofs.YtefkcmeeagflmaaDoor
