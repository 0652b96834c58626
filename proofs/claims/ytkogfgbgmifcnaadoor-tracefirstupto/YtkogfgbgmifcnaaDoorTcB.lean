/-
  A judge in memory; what wants a rule to be kept; conditions: what lies in memory lies as told.
-/
import Derived.Test.YtkogfgbgmifcnaaDoorTcA
import Derived.RegionDies
import Derived.OrdersHeld
namespace Go.Proofs.YtkogfgbgmifcnaaDoor
open Go.RowKit Go.Shelf Go.Maps Go.ChangeShapes
set_option linter.unusedVariables false
set_option linter.unusedSimpArgs false
/-- A judge's cells: the trace, where it is, the walk. -/
def Tr.jc (t : Tr) (at' : Int) (wp : Value) : Array Value := (t.cl ++ [.int .i64 at', wp]).toArray
def JB (w : World) (jb : Nat) (t : Tr) (at' : Int) (wp : Value) : Prop := w.heap[jb]? = some (.cells (t.jc at' wp) 109 (0, 0))
theorem JB.fr {S : List Nat} {w w' : World} {jb : Nat} {t : Tr} {p : Int} {wp : Value} (h : JB w jb t p wp) (f : Fr S w w') (hS : jb ∉ S) : JB w' jb t p wp :=
  (f.block _ (Array.getElem?_eq_some_iff.1 h).1 hS).trans h
theorem JB.fr0 {w w' : World} {jb : Nat} {t : Tr} {p : Int} {wp : Value} (h : JB w jb t p wp) (f : Fr [] w w') : JB w' jb t p wp := h.fr f (by simp)
theorem Tr.jc_arr (t : Tr) (p : Int) (wp : Value) {i : Nat} {u : Value} (h : t.arr[i]? = some u) : (t.jc p wp)[i]? = some u := by
  have hi : i < t.cl.length := by
    have := (Array.getElem?_eq_some_iff.1 h).1
    simpa [Tr.arr] using this
  have h' : t.cl[i]? = some u := by simpa [Tr.arr] using h
  simp only [Tr.jc, List.getElem?_toArray]
  rw [List.getElem?_append_left hi, h']
theorem Tr.jc_at (t : Tr) (p : Int) (wp : Value) : (t.jc p wp)[17]? = some (.int .i64 p) := by
  simp only [Tr.jc, List.getElem?_toArray]
  rw [List.getElem?_append_right (by rw [t.cl_len]; decide), t.cl_len]
  rfl
theorem Tr.jc_wp (t : Tr) (p : Int) (wp : Value) : (t.jc p wp)[18]? = some wp := by
  simp only [Tr.jc, List.getElem?_toArray]
  rw [List.getElem?_append_right (by rw [t.cl_len]; decide), t.cl_len]
  rfl
def thrown (p : Int) : Ending := .panicked [{ v := .iface 107 (.agg #[.int .i64 p]), recovered := false }]
/-- What comes of a rule: kept, or thrown. -/
def Jd (ok : Bool) (p : Int) (w : World) (e : Ending) (w' : World) : Prop := e = (if ok then .returned (.tuple #[]) else thrown p) ∧ Fr [] w w'
set_option maxRecDepth 100000 in
theorem want_yes (jb : Nat) (w : World) : Calls Tryd.prog 110 #[.pointer (some ⟨jb, 0, none⟩), .bool true] w fun e w' => e = .returned (.tuple #[]) ∧ w' = w := by
  go_enter Tryd.func110, Tryd.ntmps110
  go_wp2
  go_end0
  exact ⟨rfl, rfl⟩
set_option maxRecDepth 100000 in
theorem want_no {jb : Nat} {w : World} {t : Tr} {p : Int} {wp : Value} (h : JB w jb t p wp) : Calls Tryd.prog 110 #[.pointer (some ⟨jb, 0, none⟩), .bool false] w fun e w' => e = thrown p ∧ w' = w := by
  have c17 : w.cell? ⟨jb, 17, none⟩ = some (.int .i64 p) := at_cells h 17 (t.jc_at p wp)
  unfold thrown
  clear h
  go_enter Tryd.func110, Tryd.ntmps110
  go_wp2
  exact ⟨rfl, rfl, rfl⟩
theorem want_any {jb : Nat} {w : World} {t : Tr} {p : Int} {wp : Value} (h : JB w jb t p wp) (ok : Bool) : Calls Tryd.prog 110 #[.pointer (some ⟨jb, 0, none⟩), .bool ok] w fun e w' => e = (if ok then .returned (.tuple #[]) else thrown p) ∧ w' = w := by
  cases ok
  · exact want_no h
  · exact want_yes jb w
set_option maxRecDepth 100000 in
theorem within_yes (jb : Nat) (z a b : Int) (w : World) (h0 : a ≤ z) (h1 : z ≤ b) : Calls Tryd.prog 94 #[.pointer (some ⟨jb, 0, none⟩), .int .i64 z, .int .i64 a, .int .i64 b] w fun e w' => e = .returned (.tuple #[]) ∧ w' = w := by
  have C := want_yes jb w
  have d0 : decide (a ≤ z) = true := by simpa using h0
  have d1 : decide (z ≤ b) = true := by simpa using h1
  go_enter Tryd.func94, Tryd.ntmps94
  go_wp2_with (go_at_call 110; refine C.mono ?_; rintro e w' ⟨rfl, rfl⟩)
  go_end0
  exact ⟨rfl, rfl⟩
set_option maxRecDepth 100000 in
theorem within_no {jb : Nat} {w : World} {t : Tr} {p : Int} {wp : Value} (h : JB w jb t p wp) (z a b : Int) (h0 : ¬ (a ≤ z ∧ z ≤ b)) : Calls Tryd.prog 94 #[.pointer (some ⟨jb, 0, none⟩), .int .i64 z, .int .i64 a, .int .i64 b] w fun e w' => e = thrown p ∧ w' = w := by
  have C := want_no h
  unfold thrown at *
  clear h
  by_cases h1 : a ≤ z
  · have d1 : decide (z ≤ b) = false := decide_eq_false (fun h => h0 ⟨h1, h⟩)
    go_enter Tryd.func94, Tryd.ntmps94
    go_wp2_with (go_at_call 110; refine C.mono ?_; rintro e w' ⟨rfl, rfl⟩)
    exact ⟨rfl, rfl, rfl⟩
  · have d1 : decide (a ≤ z) = false := decide_eq_false h1
    go_enter Tryd.func94, Tryd.ntmps94
    go_wp2_with (go_at_call 110; refine C.mono ?_; rintro e w' ⟨rfl, rfl⟩)
    exact ⟨rfl, rfl, rfl⟩
theorem within_any {jb : Nat} {w : World} {t : Tr} {p : Int} {wp : Value} (h : JB w jb t p wp) (z a b : Int) : Calls Tryd.prog 94 #[.pointer (some ⟨jb, 0, none⟩), .int .i64 z, .int .i64 a, .int .i64 b] w fun e w' => e = (if decide (a ≤ z) && decide (z ≤ b) then .returned (.tuple #[]) else thrown p) ∧ w' = w := by
  by_cases h0 : a ≤ z ∧ z ≤ b
  · rw [if_pos (by simp [h0.1, h0.2])]
    exact within_yes jb z a b w h0.1 h0.2
  · rw [if_neg (by simpa using h0)]
    exact within_no h z a b h0
end Go.Proofs.YtkogfgbgmifcnaaDoor
