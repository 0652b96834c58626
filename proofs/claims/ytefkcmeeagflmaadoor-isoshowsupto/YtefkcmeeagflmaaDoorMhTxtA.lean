/-
  The document's text of a value; conditions: things are few, numbers are of 64 bits, the library's table lies as told.
-/
import Derived.Test.YtefkcmeeagflmaaDoorMhPurF
import Derived.Test.YtefkcmeeagflmaaDoorMhVf
import Derived.Deep.RegionHeld3
namespace Go.Proofs.YtefkcmeeagflmaaDoor
open Go.RowKit
set_option linter.unusedVariables false
set_option linter.unusedSimpArgs false

/-- The text's own cells. -/
def TS (w : World) (kt b : Nat) (vo : Value) (m : Nat) : Prop := w.heap[kt]? = some (.cells #[.pointer (some ⟨b, 0, none⟩), vo, .int .i64 (m : Int)] 96 (0, 0))

theorem TS.fr {S : List Nat} {w w' : World} {kt b m : Nat} {vo : Value} (h : TS w kt b vo m) (f : Fr S w w') (hS : kt ∉ S) : TS w' kt b vo m := (f.block kt (Array.getElem?_eq_some_iff.1 h).1 hS).trans h
theorem TS.c0 {w : World} {kt b m : Nat} {vo : Value} (h : TS w kt b vo m) : w.cell? ⟨kt, 0, none⟩ = some (.pointer (some ⟨b, 0, none⟩)) := at_cells h 0 rfl
theorem TS.c1 {w : World} {kt b m : Nat} {vo : Value} (h : TS w kt b vo m) : w.cell? ⟨kt, 1, none⟩ = some vo := at_cells h 1 rfl
theorem TS.c2 {w : World} {kt b m : Nat} {vo : Value} (h : TS w kt b vo m) : w.cell? ⟨kt, 2, none⟩ = some (.int .i64 (m : Int)) := at_cells h 2 rfl

theorem TS.set {w : World} {kt b m : Nat} {vo : Value} (h : TS w kt b vo m) : TS (w.setCell ⟨kt, 2, none⟩ (.int .i64 ((m : Int) + 1))) kt b vo (m + 1) := by
  unfold TS at *
  have := (Array.getElem?_eq_some_iff.1 h).1
  simp [World.setCell, Array.getElem?_modify, h]
theorem TS.froz {w : World} {kt b m : Nat} {vo : Value} (h : TS w kt b vo m) : w.frozen? ⟨kt, 2, none⟩ = false := by
  unfold TS at h
  simp [World.frozen?, h]

theorem rrep_kt {w w' : World} {B b : Nat} {lim used : Int} {sv : Value} {rk rn : Int} {U : List RT} (R : RRep w B b lim used sv rk rn U) {kt : Nat} {cs : Array Value} (hk : w.heap[kt]? = some (.cells cs 96 (0, 0))) (f : Fr [kt] w w') : RRep w' B b lim used sv rk rn U := by
  refine R.fr f (fun k hm hm' => ?_)
  simp only [List.mem_singleton] at hm'
  subst hm'
  unfold rfoot at hm
  simp only [List.mem_cons, List.mem_append, Option.mem_toList, List.mem_flatMap] at hm
  rcases hm with rfl | hm | ⟨u, hu, hm⟩
  · have := R.hb
    unfold RH at this
    rw [this] at hk
    simp at hk
  · exact own_ne R.row hk (by decide) hm
  · exact own_ne (R.th u hu) hk (by decide) hm
theorem own_kt {w w' : World} {B n : Nat} {v : Value} {xs : List Value} (h : w.ownsRow B 2 1 v n xs) {kt : Nat} {cs : Array Value} (hk : w.heap[kt]? = some (.cells cs 96 (0, 0))) (f : Fr [kt] w w') : w'.ownsRow B 2 1 v n xs :=
  own_fr h f (fun k hk' hm => by simp only [List.mem_singleton] at hm; subst hm; exact own_ne h hk (by decide) hk')

theorem at64 (k : Int) : (⟨#[64]⟩ : ByteArray) ++ bt (Lib.itoa k) = bt (64 :: Lib.itoa k) := by
  apply ByteArray.ext
  simp [bt]
theorem fnd_pre {out r : List Int} {n : Int} {k : Nat} (h : idx out n = some k) : fnd (out ++ r) n = (k : Int) := by unfold fnd; rw [idx_pre h]

/-- What is so at each value of a list. -/
theorem rf {A : List (Int × List (Int × Int))} (hA : wfA A) {fu : Nat} {sep : List UInt8} {xs : List (Int × Int)} {o1 pl r : List Int} (hs : sep.length ≤ 1) (hx : ∀ c, c ∈ xs → (Lit.int .i64 c.2).wf = true) (hl : xs.length ≤ 1000000) (hp : pl = (lstR (valR A fu) sep xs o1).2 ++ r) (h1 : o1.length + lft (fun _ => 1) A o1 ≤ 1000000) (h2 : lft wt2 A o1 ≤ 1000000) (h3 : lft (fun _ => 1) A o1 < fu) (k : Nat) :
    (lstR (valR A fu) sep (xs.take k) o1).1.length ≤ 400000000 ∧ ∀ x, xs[k]? = some x →
    ∃ r', pl = (valR A fu x (lstR (valR A fu) sep (xs.take k) o1).2).2 ++ r' ∧ (lstR (valR A fu) sep (xs.take k) o1).2.length + lft (fun _ => 1) A (lstR (valR A fu) sep (xs.take k) o1).2 ≤ 1000000 ∧ lft wt2 A (lstR (valR A fu) sep (xs.take k) o1).2 ≤ 1000000 ∧ lft (fun _ => 1) A (lstR (valR A fu) sep (xs.take k) o1).2 < fu ∧
      lstR (valR A fu) sep (xs.take (k + 1)) o1 = ((lstR (valR A fu) sep (xs.take k) o1).1 ++ (if k = 0 then sep else [32]) ++ (valR A fu x (lstR (valR A fu) sep (xs.take k) o1).2).1, (valR A fu x (lstR (valR A fu) sep (xs.take k) o1).2).2) ∧ (valR A fu x (lstR (valR A fu) sep (xs.take k) o1).2).1.length ≤ 400000000 ∧ (Lit.int .i64 x.2).wf = true := by
  have hlen := lst_len (A := A) (val_len A fu) sep (xs.take k) o1
  have htl := lst_tl (A := A) (M := 0) (val_len A fu) (val_tl hA fu) sep (xs.take k) o1 hs (fun c hc => hx c (List.mem_of_mem_take hc)) (by omega)
  have hkl : (xs.take k).length ≤ 1000000 := by rw [List.length_take]; omega
  obtain ⟨q, hq⟩ := lst_pre (val_pre A fu) sep (xs.take k) o1
  have m1 := lft_app (fun _ => 1) A o1 q
  have m2 := lft_app wt2 A o1 q
  rw [← hq] at m1 m2
  refine ⟨by omega, fun x hk => ?_⟩
  have ht := lst_take (valR A fu) xs k x sep o1 hk
  obtain ⟨t, htt⟩ := lst_pre_take (valR A fu) (val_pre A fu) sep xs (k + 1) o1
  have hwx := hx x (List.mem_of_getElem? hk)
  have hvt := val_tl hA fu x (lstR (valR A fu) sep (xs.take k) o1).2 hwx (by omega)
  refine ⟨t ++ r, ?_, by omega, by omega, by omega, ht, by omega, hwx⟩
  rw [hp, htt, ht, List.append_assoc]
end Go.Proofs.YtefkcmeeagflmaaDoor
