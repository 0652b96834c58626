/-
  The document's table of instructions, its fields, which registers it says are read and written; whether lists of numbers are alike; conditions: what lies in memory lies as told.
-/
import Derived.Test.YtajdnakpljgkpaaDoorIrC
import Derived.Lib.Bytealg
import Derived.Lib.UnsafeStr
namespace Go.Proofs.YtajdnakpljgkpaaDoor
open Go.RowKit
set_option linter.unusedVariables false
set_option linter.unusedSimpArgs false

/-- The document's columns. -/
def rnamesT : List (List UInt8) := [] :: namesT.tail
def rfieldsT : List (List UInt8) := fieldsT.map (fun l => l.map (fun c => if c = 99 then 67 else c))
def rnT (op : Int) : List UInt8 := rnamesT.getD (rowN op) []
def rfT (op : Int) : List UInt8 := rfieldsT.getD (rowN op) []
def rowV (op : Int) : Value := .tuple #[.string (txt (rnT op)), .string (txt (rfT op)), .string (txt (rT op)), .string (txt (wT op))]

theorem results_tmp4 {fn : Func} {t u v x : Tmp} (h : fn.results = #[.tmp t, .tmp u, .tmp v, .tmp x]) (tmps : Array Value) (P : Program) (w : World) :
    (results fn tmps).run P w = .ok (.tuple #[tmps.getD t undef, tmps.getD u undef, tmps.getD v undef, tmps.getD x undef]) w := by
  simp [results, h]

set_option maxRecDepth 100000 in
set_option maxHeartbeats 8000000 in
theorem rrow_any (op : Int) (w : World) : Calls Tryd.prog 39 #[.int .i64 op] w fun e w' => e = .returned (rowV op) ∧ w' = w := by
  by_cases h : 1 ≤ op ∧ op ≤ 28
  · have hc : op = 1 ∨ op = 2 ∨ op = 3 ∨ op = 4 ∨ op = 5 ∨ op = 6 ∨ op = 7 ∨ op = 8 ∨ op = 9 ∨ op = 10 ∨ op = 11 ∨ op = 12 ∨ op = 13 ∨ op = 14 ∨ op = 15 ∨ op = 16 ∨ op = 17 ∨ op = 18 ∨ op = 19 ∨ op = 20 ∨ op = 21 ∨ op = 22 ∨ op = 23 ∨ op = 24 ∨ op = 25 ∨ op = 26 ∨ op = 27 ∨ op = 28 := by omega
    clear h
    rcases hc with rfl | rfl | rfl | rfl | rfl | rfl | rfl | rfl | rfl | rfl | rfl | rfl | rfl | rfl | rfl | rfl | rfl | rfl | rfl | rfl | rfl | rfl | rfl | rfl | rfl | rfl | rfl | rfl
    all_goals
      go_enter Tryd.func39, Tryd.ntmps39
      go_wp2
      exact bodyPost_ret (results_tmp4 rfl _ _ _) rfl ⟨rfl, rfl⟩
  · have hr : rowN op = 0 := by unfold rowN; rw [if_neg h]
    have hv : rowV op = .tuple #[.string (txt []), .string (txt []), .string (txt []), .string (txt [])] := by unfold rowV rnT rfT rT wT; rw [hr]; rfl
    rw [hv]
    have d1 : (op == 1) = false := beq_int_false (by omega)
    have d2 : (op == 2) = false := beq_int_false (by omega)
    have d3 : (op == 3) = false := beq_int_false (by omega)
    have d4 : (op == 4) = false := beq_int_false (by omega)
    have d5 : (op == 5) = false := beq_int_false (by omega)
    have d6 : (op == 6) = false := beq_int_false (by omega)
    have d7 : (op == 7) = false := beq_int_false (by omega)
    have d8 : (op == 8) = false := beq_int_false (by omega)
    have d9 : (op == 9) = false := beq_int_false (by omega)
    have d10 : (op == 10) = false := beq_int_false (by omega)
    have d11 : (op == 11) = false := beq_int_false (by omega)
    have d12 : (op == 12) = false := beq_int_false (by omega)
    have d13 : (op == 13) = false := beq_int_false (by omega)
    have d14 : (op == 14) = false := beq_int_false (by omega)
    have d15 : (op == 15) = false := beq_int_false (by omega)
    have d16 : (op == 16) = false := beq_int_false (by omega)
    have d17 : (op == 17) = false := beq_int_false (by omega)
    have d18 : (op == 18) = false := beq_int_false (by omega)
    have d19 : (op == 19) = false := beq_int_false (by omega)
    have d20 : (op == 20) = false := beq_int_false (by omega)
    have d21 : (op == 21) = false := beq_int_false (by omega)
    have d22 : (op == 22) = false := beq_int_false (by omega)
    have d23 : (op == 23) = false := beq_int_false (by omega)
    have d24 : (op == 24) = false := beq_int_false (by omega)
    have d25 : (op == 25) = false := beq_int_false (by omega)
    have d26 : (op == 26) = false := beq_int_false (by omega)
    have d27 : (op == 27) = false := beq_int_false (by omega)
    have d28 : (op == 28) = false := beq_int_false (by omega)
    clear h hr hv
    go_enter Tryd.func39, Tryd.ntmps39
    go_wp2
    exact bodyPost_ret (results_tmp4 rfl _ _ _) rfl ⟨rfl, rfl⟩

/-- A register field by its letter. -/
def fieldL (x : In) (c : Nat) : Int := if c = 65 then x.a else if c = 66 then x.b else x.c
set_option maxRecDepth 100000 in
theorem field_any (x : In) (c : Nat) (w : World) : Calls Tryd.prog 40 #[.agg x.arr, .int .u8 c] w fun e w' => e = .returned (.int .i64 (fieldL x c)) ∧ Fr [] w w' := by
  have F0 : Fr [] w (w.alloc (.cells x.arr 59)) := (Fr.refl _ _).alloc _
  unfold In.arr at *
  by_cases e1 : c = 65
  · subst e1
    go_enter Tryd.func40, Tryd.ntmps40
    go_wp2
    go_ret
    exact ⟨rfl, F0⟩
  · have d1 : ((c : Int) == 65) = false := beq_int_false (by omega)
    by_cases e2 : c = 66
    · subst e2
      go_enter Tryd.func40, Tryd.ntmps40
      go_wp2
      go_ret
      exact ⟨rfl, F0⟩
    · have d2 : ((c : Int) == 66) = false := beq_int_false (by omega)
      have hf : fieldL x c = x.c := by simp [fieldL, e1, e2]
      rw [hf]
      clear e1 e2 hf
      go_enter Tryd.func40, Tryd.ntmps40
      go_wp2
      go_ret
      exact ⟨rfl, F0⟩

set_option maxRecDepth 100000 in
theorem rwrites_any (x : In) (w : World) : Calls Tryd.prog 20 #[.agg x.arr] w fun e w' => e = .returned (.int .i64 (if wT x.op = [] then -1 else x.a)) ∧ Fr [] w w' := by
  have F0 : Fr [] w (w.alloc (.cells x.arr 59)) := (Fr.refl _ _).alloc _
  have C := fun w' => rrow_any x.op w'
  unfold rowV at C
  unfold In.arr at *
  have HT : (txt (wT x.op)).toList = wT x.op := by rw [Lib.toList_data, txt_list]
  cases hw : wT x.op with
  | nil =>
    rw [hw] at C HT
    go_enter Tryd.func20, Tryd.ntmps20
    go_wp2_with (go_at_call 39; refine (C _).mono ?_; rintro e w' ⟨rfl, rfl⟩)
    go_ret
    exact ⟨rfl, F0⟩
  | cons c r =>
    rw [hw] at C HT
    have hE : ((txt (c :: r)).toList == []) = false := by rw [HT]; rfl
    have hE2 : ((txt (c :: r)).toList.isEmpty) = false := by rw [HT]; rfl
    generalize txt (c :: r) = S at *
    clear HT
    go_enter Tryd.func20, Tryd.ntmps20
    go_wp2_with (go_at_call 39; refine (C _).mono ?_; rintro e w' ⟨rfl, rfl⟩)
    go_ret
    exact ⟨rfl, F0⟩
end Go.Proofs.YtajdnakpljgkpaaDoor
