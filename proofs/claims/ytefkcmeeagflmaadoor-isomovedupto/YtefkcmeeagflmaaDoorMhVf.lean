/-
  A value that is handed over by itself, of two cells.
-/
import Derived.Test.YtefkcmeeagflmaaDoorMhDor
namespace Go.Proofs.YtefkcmeeagflmaaDoor
open Go.ChangeShapes Go.WideShapes Go.ChangeAt Go.RowKit Go.Joins Go.Deep

set_option maxRecDepth 100000 in
theorem val_form {H : Type} {enc : TypeId × Value → H} {w w' : World} {r} {base : Nat} {spare : Nat → Bool} {held : Bool} {fuel : Nat} {v : Value} {x : DataW H × List MemPlace} (hv : Value.okWide Tryd.prog w' r base 45 v) (h : DataW.trod enc Tryd.prog w 0 spare held fuel 45 v.cells.toList = some x) :
    ∃ p q, v = .agg #[.int .i64 p, .int .i64 q] ∧ (Lit.int .i64 q).wf = true := by
  obtain ⟨cs, rfl, _⟩ := okWide_struct Tryd.underlying45 hv
  obtain ⟨p, q, e, hq⟩ := read_val h
  refine ⟨p, q, ?_, hq⟩
  cases cs
  simp only [Value.cells] at e
  subst e
  rfl
end Go.Proofs.YtefkcmeeagflmaaDoor
