/-
  Keys compared, as an operation; condition: they are numbers of 64 bits.
-/
import Derived.Test.YtjeddgjndpdhoaaPrS
namespace Go.Proofs.Ytjeddgjndpdhoaa
open Go.RowKit
set_option linter.unusedVariables false
set_option linter.unusedSimpArgs false
theorem wp_eql28 {o : Oper} {act : Act} {w : World} {K : Act → World → Prop} {Q : Exit → Act → World → Prop} (x y : Operand) (hop : o.op = .binOp .eql 28 x y 28) {a b : Ky} (ha : kw a) (hb : kw b) (hx : act.eval x = .agg (kc a)) (hy : act.eval y = .agg (kc b)) (h : K (act.put o.dst (.bool (decide (a = b)))) w) : o.wp Try.prog act w K Q := by
  unfold Oper.wp execOp
  simp only [hop, hx, hy, Sem.run_bind, guard28, eql28 w ha hb, Result.andThen_ok, Sem.run_pure]
  exact h
theorem wpList_eql28 {ops : Array Oper} {rest : List Oper} {o : Oper} {act : Act} {w : World} {Q : Exit → Act → World → Prop} (hg : o.guard = none) (x y : Operand) (hop : o.op = .binOp .eql 28 x y 28) {a b : Ky} (ha : kw a) (hb : kw b) (hx : act.eval x = .agg (kc a)) (hy : act.eval y = .agg (kc b)) (h : wpList Try.prog ops Q rest (act.put o.dst (.bool (decide (a = b)))) w) : wpList Try.prog ops Q (o :: rest) act w :=
  wpList_plain hg fun K hK => wp_eql28 x y hop ha hb hx hy (hK _ _ h)
end Go.Proofs.Ytjeddgjndpdhoaa
