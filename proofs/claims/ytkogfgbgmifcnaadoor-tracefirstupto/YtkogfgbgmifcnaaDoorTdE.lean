/-
  The example's trace lies as told, and may be.
-/
import Derived.Test.YtkogfgbgmifcnaaDoorTdD
namespace Go.Proofs.YtkogfgbgmifcnaaDoor
open Go.RowKit Go.Shelf Go.Maps Go.ChangeShapes
set_option linter.unusedVariables false
set_option linter.unusedSimpArgs false
theorem ex_fr (w : World) : Fr [] w (exW w) := chain_fr _ w
theorem ex_ok (w : World) : TrOk (exW w) 0 (exT w.heap.size) := by
  have h1 : (exW w).heap[w.heap.size + 1]? = some (.cells #[.int .i64 0] 3 (0, 0)) := chain_at _ w 1 _ rfl
  have h3 : (exW w).heap[w.heap.size + 3]? = some (.cells (flatS [⟨1, 0, 0, 0⟩, ⟨0, 0, 1, 0⟩]).toArray 51 (0, 0)) := chain_at _ w 3 _ rfl
  have h4 : (exW w).heap[w.heap.size + 4]? = some (.cells (flatE (exT w.heap.size).ops).toArray 48 (0, 0)) := chain_at _ w 4 _ rfl
  have h5 : (exW w).heap[w.heap.size + 5]? = some (.cells (flatE (exT w.heap.size).links).toArray 57 (0, 0)) := chain_at _ w 5 _ rfl
  have h7 : (exW w).heap[w.heap.size + 7]? = some (.cells (flatS [⟨1, 0, 0, 2⟩]).toArray 51 (0, 0)) := chain_at _ w 7 _ rfl
  generalize exW w = W at *
  generalize w.heap.size = n at *
  have s3 : SL W 0 51 (some ⟨n + 3, 0, none⟩) 2 2 4 32 (flatS [⟨1, 0, 0, 0⟩, ⟨0, 0, 1, 0⟩]) := SL.own (B0 := 0) ⟨rfl, .inr ⟨_, _, _, rfl, Nat.zero_le _, h3, Nat.le_refl _, by decide, rfl, rfl⟩⟩ rfl (by decide)
  refine ⟨SL.own (B0 := 0) ⟨rfl, .inr ⟨_, _, _, rfl, Nat.zero_le _, h1, Nat.le_refl _, by simp [exT, maxLen], rfl, rfl⟩⟩ rfl (by simp [exT]), SL.own (B0 := 0) ⟨rfl, .inr ⟨_, _, _, rfl, Nat.zero_le _, h4, Nat.le_refl _, by simp [exT, maxLen], rfl, rfl⟩⟩ rfl (by simp [exT]), fun e he => ?_,
    SL.own (B0 := 0) ⟨rfl, .inr ⟨_, _, _, rfl, Nat.zero_le _, h5, Nat.le_refl _, by simp [exT, maxLen], rfl, rfl⟩⟩ rfl (by simp [exT]), fun e he => ?_, SL.nil _ _ _ _ rfl, fun e he => by simp [exT] at he, SL.own (B0 := 0) ⟨rfl, .inr ⟨_, _, _, rfl, Nat.zero_le _, h7, Nat.le_refl _, by simp [exT, maxLen], rfl, rfl⟩⟩ rfl (by simp [exT])⟩
  · simp only [exT, List.mem_cons, List.not_mem_nil, or_false] at he
    rcases he with rfl | rfl
    · exact ⟨rfl, rfl, SL.nil _ _ _ _ rfl⟩
    · exact ⟨rfl, rfl, s3⟩
  · simp only [exT, List.mem_cons, List.not_mem_nil, or_false] at he
    subst he
    exact ⟨rfl, rfl, SL.nil _ _ _ _ rfl⟩
theorem ex_abs (n : Nat) : ATOk (exT n).abs := by
  refine ⟨by simp [exT, Tr.abs, kw, kl0]; decide, fun s hs => ?_, fun e he s hs => ?_, fun e he s hs => ?_, fun e he => by simp [exT, Tr.abs] at he⟩
  · simp [exT, Tr.abs] at hs
    subst hs
    unfold Sr.w Sr.il
    decide
  · simp [exT, Tr.abs, El.abs] at he
    rcases he with rfl | rfl
    · simp at hs
    · simp at hs
      rcases hs with rfl | rfl <;> (unfold Sr.w Sr.il; decide)
  · simp [exT, Tr.abs, El.abs] at he
    subst he
    simp at hs
theorem ex_whole (n : Nat) : wholeP (exT n).abs = none := by
  have : (exT n).abs = (exT 0).abs := rfl
  rw [this]
  decide +kernel
end Go.Proofs.YtkogfgbgmifcnaaDoor
