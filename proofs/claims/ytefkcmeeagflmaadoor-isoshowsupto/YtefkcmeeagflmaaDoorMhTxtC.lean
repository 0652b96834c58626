/-
  The document's text of a list of values; conditions: things are few, numbers are of 64 bits, the library's table lies as told.
-/
import Derived.Test.YtefkcmeeagflmaaDoorMhTxtB
namespace Go.Proofs.YtefkcmeeagflmaaDoor
open Go.RowKit
set_option linter.unusedVariables false
set_option linter.unusedSimpArgs false

set_option maxRecDepth 100000 in
set_option maxHeartbeats 4000000 in
theorem rShow_any {w : World} {Bh b : Nat} {lim used : Int} {svh : Value} {rk rn : Int} {U : List RT} (R : RRep w Bh b lim used svh rk rn U) (PW : Pw w) (hU : ∀ u, u ∈ U → u.cells.length ≤ 1000000) (hUl : U.length ≤ 99000) (hUw : wfA (U.map RT.abs)) (h2 : lft wt2 (U.map RT.abs) [] ≤ 1000000) (xs : List (Int × Int)) (a1 : Option Addr) (n c1 : Nat) (hxn : xs.length = n) (hl : Lies w a1 xs) (hn : (n : Int) ≤ 1000000) (hwx : ∀ c, c ∈ xs → (Lit.int .i64 c.2).wf = true) :
    Calls Tryd.prog 17 #[.pointer (some ⟨b, 0, none⟩), .slice a1 n c1] w fun e w' => e = .returned (.string (bt (showR (U.map RT.abs) xs))) ∧ Fr [] w w' := by
  have HX : Hid (xs.length = n) := hxn
  have hrl : (reachR (U.map RT.abs) xs).length ≤ 99000 := by
    have := lst_len (A := U.map RT.abs) (val_len (U.map RT.abs) ((U.map RT.abs).length + 1)) [] xs []
    have h0 := wg_len (mt []) 0 (U.map RT.abs)
    unfold reachR
    simp only [List.length_nil, List.length_map] at this h0 ⊢
    unfold lft at this
    omega
  have hL0 : lft (fun _ => 1) (U.map RT.abs) [] ≤ U.length := by
    have := wg_len (mt []) 0 (U.map RT.abs)
    simp only [List.length_map] at this
    exact this
  obtain ⟨fu, hfu⟩ : ∃ fu, (U.map RT.abs).length + 1 = fu := ⟨_, rfl⟩
  have hfu2 : U.length < fu := by rw [← hfu]; simp
  have HSR : Hid (showR (U.map RT.abs) xs = (lstR (valR (U.map RT.abs) fu) [] xs []).1) := by unfold Hid showR; rw [hfu]
  have HRR : Hid (reachR (U.map RT.abs) xs = (lstR (valR (U.map RT.abs) fu) [] xs []).2) := by unfold Hid reachR; rw [hfu]
  have RFk := rf hUw (fu := fu) (sep := []) (xs := xs) (o1 := []) (pl := reachR (U.map RT.abs) xs) (r := []) (by simp) hwx (by omega) (by rw [HRR.out, List.append_nil]) (by simp only [List.length_nil]; omega) h2 (by omega)
  clear hfu
  go_enter Tryd.func17, Tryd.ntmps17
  go_wp2_with fail
  refine (rReach_any R hU (by omega) xs a1 n c1 hxn hl hn).mono ?_
  rintro e w1 ⟨v1, rfl, f1, ho1⟩
  obtain ⟨av, cv, rfl, _⟩ := own_slice ho1
  have f2 : Fr [] w1 (w1.alloc (.cells #[.pointer (some ⟨b, 0, none⟩), .slice av (reachR (U.map RT.abs) xs).length cv, .int .i64 0] 96)) := (Fr.refl _ _).alloc _
  have T2 : TS (w1.alloc (.cells #[.pointer (some ⟨b, 0, none⟩), .slice av (reachR (U.map RT.abs) xs).length cv, .int .i64 0] 96)) w1.heap.size b (.slice av (reachR (U.map RT.abs) xs).length cv) 0 := heap_alloc_new w1 _
  have y2 := T2.c1
  have hkt : w.heap.size ≤ w1.heap.size := f1.size
  have hrI : ((reachR (U.map RT.abs) xs).length : Int) ≤ 99000 := by omega
  have R2 := (R.frame f1 (by simp)).frame f2 (by simp)
  have ho2 := own_fr ho1 f2 (by simp)
  have P2 := (PW.fr f1 (by simp)).fr f2 (by simp)
  have F2 := f1.trans f2
  have hk3 : 3 ≤ w1.heap.size := by have := PW.len; omega
  go_wp2
  generalize hw2 : w1.alloc (.cells #[.pointer (some ⟨b, 0, none⟩), .slice av (reachR (U.map RT.abs) xs).length cv, .int .i64 0] 96) = w2 at *
  generalize w1.heap.size = kt at *
  have F2' : Fr [kt] w w2 := F2.sub (by simp)
  generalize hpl : reachR (U.map RT.abs) xs = pl at *
  have hpl2 : pl.length ≤ 1000000 := by omega
  clear hw2 f1 f2 ho1 y2 F2 hL0 hfu2 hrI HRR hpl
  go_loopw [6, 7, 8, 23] (fun s _ _ ix wr => ∃ (k : Nat) (S' : ByteArray), k ≤ n ∧ ix = .int .i64 k ∧ s = .string S' ∧ Hid (S' = bt (lstR (valR (U.map RT.abs) fu) [] (xs.take k) []).1) ∧ TS wr kt b (.slice av pl.length cv) (lstR (valR (U.map RT.abs) fu) [] (xs.take k) []).2.length ∧ Fr [kt] w wr ∧ RRep wr Bh b lim used svh rk rn U ∧ wr.ownsRow w.heap.size 2 1 (.slice av pl.length cv) pl.length (pl.map (Value.int .i64)) ∧ Pw wr) (fun _ _ _ ix _ => n - (intOf ix).toNat)
  case atStart => exact ⟨0, _, Nat.zero_le _, rfl, rfl, by unfold Hid; simp [lstR]; rfl, T2, F2', R2, ho2, P2⟩
  case round =>
    obtain ⟨k, S', hk, rfl, rfl, HS', Tw, Fw, Rw, how, Pw'⟩ := hrel
    by_cases hlt : k < n
    · have hx : xs[k]? = some (xs[k]'(by rw [HX.out]; exact hlt)) := List.getElem?_eq_getElem _
      have hlw : Lies wr a1 xs := (hl.fr (Fw.sub (T := []) (fun j hj => .inr (by simp only [List.mem_singleton] at hj; omega))) (by simp))
      obtain ⟨g, o, rfl, x0, x1⟩ := hlw.at hx
      obtain ⟨hl1, hl2⟩ := RFk k
      obtain ⟨r', z1, z2, z3, z4, z5, z6, z7⟩ := hl2 _ hx
      generalize xs[k]'(by rw [HX.out]; exact hlt) = x at *
      generalize lstR (valR (U.map RT.abs) fu) [] (xs.take k) [] = lk at *
      have hkI : (k : Int) < (n : Int) := by omega
      have fb : Fr [] wr (wr.alloc (.cells #[.int .i64 x.1, .int .i64 x.2] 45)) := (Fr.refl _ _).alloc _
      have C := value_any hk3 hU (by omega) hUw hpl2 fu (wr.alloc (.cells #[.int .i64 x.1, .int .i64 x.2] 45)) x lk.2 r' (Rw.frame fb (by simp)) (own_fr how fb (by simp)) (Tw.fr fb (by simp)) (Pw'.fr fb (by simp)) z7 z1 z2 z3 z4
      have Fb : Fr [kt] w (wr.alloc (.cells #[.int .i64 x.1, .int .i64 x.2] 45)) := Fw.trans (fb.sub (by simp))
      have Tb := Tw.fr fb (by simp)
      have Rb := Rw.frame fb (by simp)
      have hob := own_fr how fb (by simp)
      have Pb := Pw'.fr fb (by simp)
      have Z5 : Hid (lstR (valR (U.map RT.abs) fu) [] (xs.take (k + 1)) [] = (lk.1 ++ (if k = 0 then [] else [32]) ++ (valR (U.map RT.abs) fu x lk.2).1, (valR (U.map RT.abs) fu x lk.2).2)) := z5
      have hS1 : S'.size ≤ 500000000 := by rw [HS'.out, bt_size]; omega
      have q1 : ¬ 9223372036854775807 < S'.size + 1 := by omega
      have hT1 : (bt (valR (U.map RT.abs) fu x lk.2).1).size ≤ 400000000 := by rw [bt_size]; exact z6
      clear hl1 hl2 hx z1 z2 z3 z4 z5 z6 z7 Tw Rw how Pw' Fw fb RFk hlw
      by_cases hk0' : k = 0
      · subst hk0'
        simp only [Nat.zero_mul, Nat.add_zero] at x0 x1
        go_wp2_with fail
        refine C.mono ?_
        rintro e w6 ⟨rfl, T6, f6⟩
        have F6 := Fb.trans f6
        have R6 := rrep_kt Rb Tb f6
        have ho6 := own_kt hob Tb f6
        have P6 := Pb.fr f6 (by simp; exact hk3)
        have HN : Hid (S' ++ bt (valR (U.map RT.abs) fu x lk.2).1 = bt (lstR (valR (U.map RT.abs) fu) [] (xs.take (0 + 1)) []).1) := by
          unfold Hid
          rw [HS'.out, bt_app, Z5.out]
          simp
        generalize bt (valR (U.map RT.abs) fu x lk.2).1 = T at *
        have q3 : ¬ 9223372036854775807 < S'.size + T.size := by omega
        clear C Fb Tb Rb hob Pb f6 x0 x1
        go_wp2
        go_roundw
        case rel => exact ⟨0 + 1, _, by omega, by go_num, rfl, HN, by rw [Z5.out]; exact T6, F6, R6, ho6, P6⟩
        case measure => simp [intOf]; omega
      · have hkp : (0 : Int) < (k : Int) := by omega
        go_wp2_with fail
        refine C.mono ?_
        rintro e w6 ⟨rfl, T6, f6⟩
        have F6 := Fb.trans f6
        have R6 := rrep_kt Rb Tb f6
        have ho6 := own_kt hob Tb f6
        have P6 := Pb.fr f6 (by simp; exact hk3)
        have HN : Hid (S' ++ ⟨#[32]⟩ ++ bt (valR (U.map RT.abs) fu x lk.2).1 = bt (lstR (valR (U.map RT.abs) fu) [] (xs.take (k + 1)) []).1) := by
          unfold Hid
          rw [HS'.out, show (⟨#[32]⟩ : ByteArray) = bt [32] from rfl, bt_app, bt_app, Z5.out]
          simp [hk0']
        generalize bt (valR (U.map RT.abs) fu x lk.2).1 = T at *
        have q3 : ¬ 9223372036854775807 < S'.size + 1 + T.size := by omega
        clear C Fb Tb Rb hob Pb f6 x0 x1
        go_wp2
        go_roundw
        case rel => exact ⟨k + 1, _, by omega, by go_num, rfl, HN, by rw [Z5.out]; exact T6, F6, R6, ho6, P6⟩
        case measure => simp [intOf]; omega
    · have hke : k = n := by omega
      have HEE : Hid (S' = bt (showR (U.map RT.abs) xs)) := by
        unfold Hid
        rw [HS'.out, HSR.out, List.take_of_length_le (by rw [HX.out]; omega)]
      have hlt' : ¬ (k : Int) < (n : Int) := by omega
      have HF : Hid (Fr [] w wr) := Fw.sub (fun j hj => .inr (by simp only [List.mem_singleton] at hj; omega))
      clear Tw Fw Rw how Pw' RFk hke
      go_wp2
      go_ret
      exact ⟨by rw [← HEE.out]; rfl, HF.out⟩
end Go.Proofs.YtefkcmeeagflmaaDoor
