/-
  What is noted of a trace that goes: the two closures; the map of what is held; condition: the maps read as told.
-/
import Derived.Test.YtnhjplfdfbbihaaCbA
namespace Go.Proofs.Ytnhjplfdfbbihaa
open Go.RowKit Go.Shelf Go.Maps Go.ChangeShapes
set_option linter.unusedVariables false
set_option linter.unusedSimpArgs false
set_option maxRecDepth 100000 in
theorem clo43 {W : World} {gb : Nat} (i p v : Int) (y : Mb) (hb : W.heap[gb]? = some (.cells (mcp y).toArray 83 (0, 0))) :
    Calls Try.prog 43 (#[.agg (pc i p), .int .i64 v] ++ #[.pointer (some ⟨gb, 0, none⟩)]) W fun e w' => e = .returned (.bool (decide (i = y.1))) ∧ Fr [] W w' := by
  have F1 : Fr [] W (W.alloc (.cells (pc i p) 94)) := (Fr.refl _ _).alloc _
  have r1 : (W.alloc (.cells (pc i p) 94)).cell? ⟨W.heap.size, 0, none⟩ = some (.int .i64 i) := at_cells (heap_alloc_new W _) 0 rfl
  have r2 : (W.alloc (.cells (pc i p) 94)).cell? ⟨gb, 0, none⟩ = some (.int .i64 y.1) := at_cells ((F1.block _ (Array.getElem?_eq_some_iff.1 hb).1 (by simp)).trans hb) 0 rfl
  have HF : Hid (Fr [] W (W.alloc (.cells (pc i p) 94))) := F1
  clear F1 hb
  go_enter Try.func43, Try.ntmps43
  go_wp2
  go_ret
  exact ⟨by by_cases h : i = y.1 <;> simp [h], HF.out⟩
set_option maxRecDepth 100000 in
theorem clo44 {W : World} {gb : Nat} (i p v : Int) (y : Mb) (hb : W.heap[gb]? = some (.cells (mcp y).toArray 83 (0, 0))) :
    Calls Try.prog 44 (#[.agg (pc i p), .int .i64 v] ++ #[.pointer (some ⟨gb, 0, none⟩)]) W fun e w' => e = .returned (.bool (decide (i = y.1) || decide (v = y.1))) ∧ Fr [] W w' := by
  have F1 : Fr [] W (W.alloc (.cells (pc i p) 94)) := (Fr.refl _ _).alloc _
  have r1 : (W.alloc (.cells (pc i p) 94)).cell? ⟨W.heap.size, 0, none⟩ = some (.int .i64 i) := at_cells (heap_alloc_new W _) 0 rfl
  have r2 : (W.alloc (.cells (pc i p) 94)).cell? ⟨gb, 0, none⟩ = some (.int .i64 y.1) := at_cells ((F1.block _ (Array.getElem?_eq_some_iff.1 hb).1 (by simp)).trans hb) 0 rfl
  have HF : Hid (Fr [] W (W.alloc (.cells (pc i p) 94))) := F1
  clear F1 hb
  go_enter Try.func44, Try.ntmps44
  go_wp2
  all_goals go_ret
  all_goals refine ⟨?_, ?_⟩
  all_goals first | exact HF.out | exact (Fr.refl _ _).alloc _ | (by_cases h : i = y.1 <;> by_cases h' : v = y.1 <;> simp_all)
open scoped Classical in
/-- What is noted of a trace is struck out of a map: whose key has its number. -/
theorem cut43 {w : World} {mb N gb : Nat} {f : Int → Int → Option Int} (h : SM w mb N f) (y : Mb) (hb : w.heap[gb]? = some (.cells (mcp y).toArray 83 (0, 0))) :
    Calls Try.prog 42 #[.map (some mb), .func (.func 43) #[] #[.pointer (some ⟨gb, 0, none⟩)]] w fun e w' => e = .returned (.tuple #[]) ∧ SM w' mb N (cutS f (fun i _ _ => decide (i = y.1))) ∧ Fr [mb] w w' := by
  have eg : ∀ args w, (callFunc 43 args).run Try.prog w = .ok (.enter 43 args) w := enters_of Try.func43 (by kernel_rfl) rfl
  have hne := h.noCells hb
  obtain ⟨D, ho, hD⟩ := h.ex
  refine (del42_any (fun l _ => decide (∃ i p, W64 i ∧ W64 p ∧ l = (pd i p).asKey ∧ i = y.1)) eg ho (fun W i p v hi hp hg => ?_)).mono fun e w' ⟨he, ho', hg⟩ => ⟨he, SM.cut _ _ (fun i p v hi hp => ?_) ho hD ho', Fr.ofGrown hg⟩
  · refine (clo43 i p v y ((hg.block _ (Array.getElem?_eq_some_iff.1 hb).1 (by simpa using hne)).trans hb)).mono fun e w' ⟨he, hf⟩ => ⟨?_, hf.grownBy⟩
    rw [he]
    congr 2
    refine decide_eq_decide.2 ⟨fun e => ⟨i, p, hi, hp, rfl, e⟩, fun ⟨j, q, hj, hq, e1, e2⟩ => ?_⟩
    rw [(pdk_inj hi hp hj hq e1).1, e2]
  · refine decide_eq_decide.2 ⟨fun ⟨j, q, hj, hq, e1, e2⟩ => ?_, fun e => ⟨i, p, hi, hp, rfl, e⟩⟩
    rw [(pdk_inj hi hp hj hq e1).1, e2]
theorem lit_inj {v u : Int} (h : (DataW.lit (.int .i64 v) : DataW Unit) = .lit (.int .i64 u)) : v = u := by simpa using h
open scoped Classical in
theorem cut44 {w : World} {mb N gb : Nat} {f : Int → Int → Option Int} (h : SM w mb N f) (y : Mb) (hb : w.heap[gb]? = some (.cells (mcp y).toArray 83 (0, 0))) :
    Calls Try.prog 42 #[.map (some mb), .func (.func 44) #[] #[.pointer (some ⟨gb, 0, none⟩)]] w fun e w' => e = .returned (.tuple #[]) ∧ SM w' mb N (cutS f (fun i _ v => decide (i = y.1) || decide (v = y.1))) ∧ Fr [mb] w w' := by
  have eg : ∀ args w, (callFunc 44 args).run Try.prog w = .ok (.enter 44 args) w := enters_of Try.func44 (by kernel_rfl) rfl
  have hne := h.noCells hb
  obtain ⟨D, ho, hD⟩ := h.ex
  have key : ∀ i p v, W64 i → W64 p → decide (∃ i' p' v', W64 i' ∧ W64 p' ∧ (pd i p).asKey = (pd i' p').asKey ∧ (DataW.lit (.int .i64 v) : DataW Unit) = .lit (.int .i64 v') ∧ (i' = y.1 ∨ v' = y.1)) = (decide (i = y.1) || decide (v = y.1)) := by
    intro i p v hi hp
    rw [← Bool.decide_or]
    refine decide_eq_decide.2 ⟨fun ⟨j, q, u, hj, hq, e1, e3, e2⟩ => ?_, fun e => ⟨i, p, v, hi, hp, rfl, rfl, e⟩⟩
    rw [(pdk_inj hi hp hj hq e1).1, lit_inj e3]
    exact e2
  refine (del42_any (fun l d => decide (∃ i p v, W64 i ∧ W64 p ∧ l = (pd i p).asKey ∧ d = .lit (.int .i64 v) ∧ (i = y.1 ∨ v = y.1))) eg ho (fun W i p v hi hp hg => ?_)).mono fun e w' ⟨he, ho', hg⟩ => ⟨he, SM.cut _ _ (fun i p v hi hp => key i p v hi hp) ho hD ho', Fr.ofGrown hg⟩
  refine (clo44 i p v y ((hg.block _ (Array.getElem?_eq_some_iff.1 hb).1 (by simpa using hne)).trans hb)).mono fun e w' ⟨he, hf⟩ => ⟨?_, hf.grownBy⟩
  rw [he, key i p v hi hp]
end Go.Proofs.Ytnhjplfdfbbihaa
