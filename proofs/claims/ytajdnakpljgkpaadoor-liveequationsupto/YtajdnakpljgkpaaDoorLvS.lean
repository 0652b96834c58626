/-
  Whether a set has grown: the region that draws its order; conditions: both sets lie as told.
-/
import Derived.Test.YtajdnakpljgkpaaDoorLvR
import Derived.ChangeKeysEq
namespace Go.Proofs.YtajdnakpljgkpaaDoor
open Go.RowKit
set_option linter.unusedVariables false
set_option linter.unusedSimpArgs false

def neS (s t : Nat → Nat) : Bool := !((List.range 16).all (fun i => s i == t i))
theorem cells65 : Tryd.prog.cellsOf 65 = 1 := by kernel_rfl
theorem under65 : Tryd.prog.underlying 65 = some (.int .u64) := by kernel_rfl
theorem info65 : (Tryd.prog.info? 65).map (fun i => (i.zero, i.size, i.bytes)) = some (some (.int .u64 0), 1, 8) := by kernel_rfl
theorem part65 (s : Nat → Nat) (w : World) {i : Nat} (hi : i < 16) : (part 65 (setA s) (i * 1)).run Tryd.prog w = .ok (.int .u64 (s i : Nat)) w := by
  have h := setA_at s hi
  have hg : (setA s)[i]'(by rw [setA_size]; exact hi) = .int .u64 (s i : Nat) := by
    rw [Array.getElem?_eq_getElem (by rw [setA_size]; exact hi)] at h
    injection h
  simp [part, isAgg, run_underlying under65, h, go_sem]
theorem eq_items (s t : Nat → Nat) (w : World) : ∀ is : List Nat, (∀ i, i ∈ is → i < 16) → (Op.eqItems 9999 65 1 (setA s) (setA t) is).run Tryd.prog w = .ok (is.all (fun i => s i == t i)) w
  | [], _ => by simp [Op.eqItems]
  | i :: is, h => by
    have hi := h i (by simp)
    simp only [Op.eqItems, Sem.run_bind, part65 s w hi, part65 t w hi, Result.andThen_ok, run_equalIn_int w 9998 65 .u64 .u64 _ _ under65]
    by_cases e : s i = t i
    · simp only [e, beq_self_eq_true, Bool.not_true, Bool.false_eq_true, if_false, List.all_cons, Bool.true_and]
      exact eq_items s t w is (fun j hj => h j (by simp [hj]))
    · have e' : ((s i : Int) == (t i : Int)) = false := by simp; omega
      have e2 : (s i == t i) = false := by simp [e]
      simp only [e', Bool.not_false, if_true, List.all_cons, e2, Bool.false_and, Sem.run_pure]
theorem neq67 (s t : Nat → Nat) (w : World) : (Op.equalIn 10000 67 (.agg (setA s)) (.agg (setA t))).run Tryd.prog w = .ok (!neS s t) w := by
  obtain ⟨i, hi, _⟩ := info_parts info65
  rw [run_equalIn_array w 9999 _ _ under67 hi, cells65, eq_items s t w _ (fun i hi => by simpa using hi)]
  simp [neS]

set_option maxRecDepth 100000 in
set_option maxHeartbeats 4000000 in
theorem reg44b {X : World} {bp nb m : Nat} {s1 s2 : Nat → Nat} (l1 : ∀ w', Fr [] X w' → w'.rangeAt nb 0 (setL s1)) (l2 : ∀ w', Fr [] X w' → w'.rangeAt bp (m * 19) (setL s2)) (bq : Bool) (hbq : neS s1 s2 = bq)
    {Q : Exit → Act → World → Prop} {u0 u1 u2 u3 u4 u5 u8 u9 u10 u11 u12 u13 u14 u15 u16 u17 u18 u19 u20 u21 u22 u23 u24 u25 u26 u27 u28 u29 u30 u31 u32 u33 u34 u35 u36 u37 u38 u39 u40 u41 u42 u43 u44 u45 u46 u47 u48 u49 u50 u51 u52 u53 u54 u55 u56 u57 u58 : Value}
    (h : ∀ n45 n46 n47 n48 n49, Q .normal { tmps := #[u0, u1, u2, u3, u4, u5, .pointer (some ⟨bp, m * 19, none⟩), .pointer (some ⟨nb, 0, none⟩), u8, u9, u10, u11, u12, u13, u14, u15, u16, u17, u18, u19, u20, u21, u22, u23, u24, u25, u26, u27, u28, u29, u30, u31, u32, u33, u34, u35, u36, u37, u38, u39, u40, u41, u42, u43, u44, n45, n46, n47, n48, n49, .bool bq, u51, u52, u53, u54, u55, u56, u57, u58], defers := [] } X.drew) :
    (Code.region 5 #[{ dst := some 45, op := Op.load 67 (Operand.tmp 7), type := 67, pos := "places.go:89", after := #[], guard := none }, { dst := some 46, op := Op.move (Operand.tmp 6), type := 130, pos := "places.go:89", after := #[], guard := none }, { dst := some 47, op := Op.nilCheck (Operand.tmp 46), type := 0, pos := "places.go:89", after := #[{ on := 1, ground := Ground.data }], guard := none }, { dst := some 48, op := Op.fieldAddr 69 (Operand.tmp 47) 0, type := 0, pos := "places.go:89", after := #[{ on := 2, ground := Ground.data }], guard := none }, { dst := some 49, op := Op.load 67 (Operand.tmp 48), type := 67, pos := "places.go:89", after := #[{ on := 3, ground := Ground.data }], guard := none }, { dst := some 50, op := Op.binOp BinOp.neq 67 (Operand.tmp 45) (Operand.tmp 49) 67, type := 4, pos := "places.go:89", after := #[{ on := 0, ground := Ground.data }, { on := 4, ground := Ground.data }], guard := none }] true).wp Tryd.prog Q { tmps := #[u0, u1, u2, u3, u4, u5, .pointer (some ⟨bp, m * 19, none⟩), .pointer (some ⟨nb, 0, none⟩), u8, u9, u10, u11, u12, u13, u14, u15, u16, u17, u18, u19, u20, u21, u22, u23, u24, u25, u26, u27, u28, u29, u30, u31, u32, u33, u34, u35, u36, u37, u38, u39, u40, u41, u42, u43, u44, u45, u46, u47, u48, u49, u50, u51, u52, u53, u54, u55, u56, u57, u58], defers := [] } X := by
  refine wp_mono (Q := Plain (fun a w => Q .normal a w)) ?_ (fun e a w h => by obtain ⟨rfl, h2⟩ := h; exact h2)
  refine wp_region_held (S := fun w' => Fr [] X w') (by kernel_rfl) ?_
  change wpAnyH _ _ _ _ _ _ _ _ X.drew
  have hS : Fr [] X X.drew := Fr.drew (Fr.refl _ X)
  refine wpAnyH_take (i := 0) (oi := { dst := some 45, op := Op.load 67 (Operand.tmp 7), type := 67, pos := "places.go:89", after := #[], guard := none }) (v := .agg (setA s1)) rfl (by decide +kernel) (by decide +kernel) (by decide +kernel) (fun _ _ _ h => absurd h.1 (by simp)) (yieldsIf_load_mid (by rfl) 67 (.tmp 7) rfl nb 0 rfl (setL s1) (.array 16 65) l1 under67 rfl (by rw [setL_len]; exact info67)) hS ?_
  simp only [Act.put, List.setIfInBounds_toArray, List.set_cons_zero, List.set_cons_succ]
  refine wpAnyH_take (i := 1) (oi := { dst := some 46, op := Op.move (Operand.tmp 6), type := 130, pos := "places.go:89", after := #[], guard := none }) (v := .pointer (some ⟨bp, m * 19, none⟩)) rfl (by decide +kernel) (by decide +kernel) (by decide +kernel) (fun _ _ _ h => absurd h.1 (by simp)) (Or.inl ⟨by rfl, fun wq hSq => by first | rfl | go_simp⟩) hS ?_
  simp only [Act.put, List.setIfInBounds_toArray, List.set_cons_zero, List.set_cons_succ]
  refine wpAnyH_take (i := 2) (oi := { dst := some 47, op := Op.nilCheck (Operand.tmp 46), type := 0, pos := "places.go:89", after := #[{ on := 1, ground := Ground.data }], guard := none }) (v := .pointer (some ⟨bp, m * 19, none⟩)) rfl (by decide +kernel) (by decide +kernel) (by decide +kernel) (fun _ _ _ h => absurd h.1 (by simp)) (Or.inl ⟨by rfl, fun wq hSq => by first | rfl | go_simp⟩) hS ?_
  simp only [Act.put, List.setIfInBounds_toArray, List.set_cons_zero, List.set_cons_succ]
  refine wpAnyH_take (i := 3) (oi := { dst := some 48, op := Op.fieldAddr 69 (Operand.tmp 47) 0, type := 0, pos := "places.go:89", after := #[{ on := 2, ground := Ground.data }], guard := none }) (v := .pointer (some ⟨bp, m * 19, none⟩)) rfl (by decide +kernel) (by decide +kernel) (by decide +kernel) (fun _ _ _ h => absurd h.1 (by simp)) (Or.inl ⟨by rfl, fun wq hSq => by first | rfl | go_simp⟩) hS ?_
  simp only [Act.put, List.setIfInBounds_toArray, List.set_cons_zero, List.set_cons_succ]
  refine wpAnyH_take (i := 4) (oi := { dst := some 49, op := Op.load 67 (Operand.tmp 48), type := 67, pos := "places.go:89", after := #[{ on := 3, ground := Ground.data }], guard := none }) (v := .agg (setA s2)) rfl (by decide +kernel) (by decide +kernel) (by decide +kernel) (fun _ _ _ h => absurd h.1 (by simp)) (yieldsIf_load_mid (by rfl) 67 (.tmp 48) rfl bp (m * 19) rfl (setL s2) (.array 16 65) l2 under67 rfl (by rw [setL_len]; exact info67)) hS ?_
  simp only [Act.put, List.setIfInBounds_toArray, List.set_cons_zero, List.set_cons_succ]
  refine wpAnyH_take (i := 5) (oi := { dst := some 50, op := Op.binOp BinOp.neq 67 (Operand.tmp 45) (Operand.tmp 49) 67, type := 4, pos := "places.go:89", after := #[{ on := 0, ground := Ground.data }, { on := 4, ground := Ground.data }], guard := none }) (v := .bool bq) rfl (by decide +kernel) (by decide +kernel) (by decide +kernel) (fun _ _ _ h => absurd h.1 (by simp)) (Or.inl ⟨by rfl, fun wq hSq => by (have q := neq67 s1 s2 wq; go_simp)⟩) hS ?_
  simp only [Act.put, List.setIfInBounds_toArray, List.set_cons_zero, List.set_cons_succ]
  refine wpAnyH_done (by decide +kernel) ?_ _
  exact ⟨rfl, h _ _ _ _ _⟩
end Go.Proofs.YtajdnakpljgkpaaDoor
