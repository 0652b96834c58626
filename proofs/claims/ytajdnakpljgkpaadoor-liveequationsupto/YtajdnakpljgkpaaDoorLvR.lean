/-
  What a place takes over is reckoned: the region that draws its order; conditions: the places lie as told.
-/
import Derived.Test.YtajdnakpljgkpaaDoorLvN
import Derived.OrdersHeld
namespace Go.Proofs.YtajdnakpljgkpaaDoor
open Go.RowKit
set_option linter.unusedVariables false
set_option linter.unusedSimpArgs false
/-- A region's end that is no panic. -/
def Plain (N : Act → World → Prop) : Exit → Act → World → Prop := fun e a w => e = .normal ∧ N a w

set_option maxRecDepth 100000 in
set_option maxHeartbeats 4000000 in
theorem reg44 {X : World} {bp br at_ m N : Nat} {wr1 : Int} {s1 s2 s3 : Nat → Nat} (l1 : ∀ w', Fr [] X w' → w'.rangeAt bp (m * 19) (setL s1)) (l2 : ∀ w', Fr [] X w' → w'.rangeAt bp (at_ * 19) (setL s2)) (c0 : ∀ w', Fr [] X w' → w'.cell? ⟨br, 0, none⟩ = some (.slice (some ⟨bp, 0, none⟩) N N)) (cw : ∀ w', Fr [] X w' → w'.cell? ⟨bp, m * 19 + 16, none⟩ = some (.int .i64 wr1))
    (C72 : ∀ w', Calls Tryd.prog 72 #[.agg (setA s2), .int .i64 wr1] w' fun e w'' => e = .returned (.agg (setA (witS s2 wr1))) ∧ Fr [] w' w'') (C71 : ∀ w', Calls Tryd.prog 71 #[.agg (setA s1), .agg (setA (witS s2 wr1))] w' fun e w'' => e = .returned (.agg (setA s3)) ∧ Fr [] w' w'')
    (ha : (at_ : Int) < N) (hN : (N : Int) ≤ 2000000) {Q : Exit → Act → World → Prop} {u2 u3 u4 u5 u7 u8 u9 u10 u11 u12 u13 u14 u15 u16 u17 u18 u19 u20 u21 u22 u23 u24 u25 u26 u27 u28 u29 u30 u31 u32 u33 u34 u35 u36 u37 u38 u39 u40 u41 u42 u43 u44 u45 u46 u47 u48 u49 u50 u51 u52 u53 u54 u55 u56 u57 u58 : Value}
    (h : ∀ n27 n28 n29 n30 n31 n32 n33 n34 n35 n36 n37 n38 n39 n40 n41 n42 n43 n44 X2 nb, Fr [] X X2 → X2.heap[nb]? = some (.cells (setA s3) 67 (0, 0)) → X.heap.size ≤ nb → Q .normal { tmps := #[.pointer (some ⟨br, 0, none⟩), .int .i64 (at_ : Nat), u2, u3, u4, u5, .pointer (some ⟨bp, m * 19, none⟩), .pointer (some ⟨nb, 0, none⟩), u8, u9, u10, u11, u12, u13, u14, u15, u16, u17, u18, u19, u20, u21, u22, u23, u24, u25, u26, n27, n28, n29, n30, n31, n32, n33, n34, n35, n36, n37, n38, n39, n40, n41, n42, n43, n44, u45, u46, u47, u48, u49, u50, u51, u52, u53, u54, u55, u56, u57, u58], defers := [] } X2) :
    (Code.region 4 #[{ dst := some 27, op := Op.move (Operand.tmp 6), type := 130, pos := "places.go:88", after := #[], guard := none }, { dst := some 28, op := Op.nilCheck (Operand.tmp 27), type := 0, pos := "places.go:88", after := #[{ on := 0, ground := Ground.data }], guard := none }, { dst := some 29, op := Op.fieldAddr 69 (Operand.tmp 28) 0, type := 0, pos := "places.go:88", after := #[{ on := 1, ground := Ground.data }], guard := none }, { dst := some 30, op := Op.load 67 (Operand.tmp 29), type := 67, pos := "places.go:88", after := #[{ on := 2, ground := Ground.data }], guard := none }, { dst := some 31, op := Op.move (Operand.tmp 0), type := 129, pos := "places.go:88", after := #[], guard := none }, { dst := some 32, op := Op.nilCheck (Operand.tmp 31), type := 0, pos := "places.go:88", after := #[{ on := 4, ground := Ground.data }], guard := none }, { dst := some 33, op := Op.fieldAddr 100 (Operand.tmp 32) 0, type := 0, pos := "places.go:88", after := #[{ on := 5, ground := Ground.data }], guard := none }, { dst := some 34, op := Op.load 63 (Operand.tmp 33), type := 63, pos := "places.go:88", after := #[{ on := 6, ground := Ground.data }], guard := none }, { dst := some 35, op := Op.move (Operand.tmp 1), type := 3, pos := "places.go:88", after := #[], guard := none }, { dst := some 36, op := Op.indexAddr 63 (Operand.tmp 34) (Operand.tmp 35), type := 0, pos := "places.go:88", after := #[{ on := 7, ground := Ground.data }, { on := 8, ground := Ground.data }], guard := none }, { dst := some 37, op := Op.fieldAddr 69 (Operand.tmp 36) 0, type := 0, pos := "places.go:88", after := #[{ on := 9, ground := Ground.data }], guard := none }, { dst := some 38, op := Op.load 67 (Operand.tmp 37), type := 67, pos := "places.go:88", after := #[{ on := 10, ground := Ground.data }], guard := none }, { dst := some 39, op := Op.move (Operand.tmp 6), type := 130, pos := "places.go:88", after := #[], guard := none }, { dst := some 40, op := Op.nilCheck (Operand.tmp 39), type := 0, pos := "places.go:88", after := #[{ on := 12, ground := Ground.data }], guard := none }, { dst := some 41, op := Op.fieldAddr 69 (Operand.tmp 40) 1, type := 0, pos := "places.go:88", after := #[{ on := 13, ground := Ground.data }], guard := none }, { dst := some 42, op := Op.load 3 (Operand.tmp 41), type := 3, pos := "places.go:88", after := #[{ on := 14, ground := Ground.data }], guard := none }, { dst := some 43, op := Op.call { callee := Callee.value (Operand.func 72), args := #[Operand.tmp 38, Operand.tmp 42], argTypes := #[67, 3] }, type := 67, pos := "places.go:88", after := #[{ on := 11, ground := Ground.data }, { on := 15, ground := Ground.data }], guard := none }, { dst := some 44, op := Op.call { callee := Callee.value (Operand.func 71), args := #[Operand.tmp 30, Operand.tmp 43], argTypes := #[67, 67] }, type := 67, pos := "places.go:88", after := #[{ on := 3, ground := Ground.data }, { on := 16, ground := Ground.data }, { on := 16, ground := Ground.chain }], guard := none }, { dst := some 7, op := Op.alloc 67, type := 0, pos := "places.go:88", after := #[], guard := none }, { dst := none, op := Op.store 67 (Operand.tmp 7) (Operand.tmp 44), type := 0, pos := "places.go:88", after := #[{ on := 18, ground := Ground.data }, { on := 17, ground := Ground.data }, { on := 17, ground := Ground.chain }, { on := 0, ground := Ground.phase }, { on := 1, ground := Ground.phase }, { on := 2, ground := Ground.phase }, { on := 3, ground := Ground.phase }, { on := 4, ground := Ground.phase }, { on := 5, ground := Ground.phase }, { on := 6, ground := Ground.phase }, { on := 7, ground := Ground.phase }, { on := 8, ground := Ground.phase }, { on := 9, ground := Ground.phase }, { on := 10, ground := Ground.phase }, { on := 11, ground := Ground.phase }, { on := 12, ground := Ground.phase }, { on := 13, ground := Ground.phase }, { on := 14, ground := Ground.phase }, { on := 15, ground := Ground.phase }, { on := 16, ground := Ground.phase }, { on := 17, ground := Ground.phase }, { on := 18, ground := Ground.phase }], guard := none }] true).wp Tryd.prog Q { tmps := #[.pointer (some ⟨br, 0, none⟩), .int .i64 (at_ : Nat), u2, u3, u4, u5, .pointer (some ⟨bp, m * 19, none⟩), u7, u8, u9, u10, u11, u12, u13, u14, u15, u16, u17, u18, u19, u20, u21, u22, u23, u24, u25, u26, u27, u28, u29, u30, u31, u32, u33, u34, u35, u36, u37, u38, u39, u40, u41, u42, u43, u44, u45, u46, u47, u48, u49, u50, u51, u52, u53, u54, u55, u56, u57, u58], defers := [] } X := by
  refine wp_mono (Q := Plain (fun a w => Q .normal a w)) ?_ (fun e a w h => by obtain ⟨rfl, h2⟩ := h; exact h2)
  refine wp_region_held (S := fun w' => Fr [] X w') (by kernel_rfl) ?_
  change wpAnyH _ _ _ _ _ _ _ _ X.drew
  have hS : Fr [] X X.drew := Fr.drew (Fr.refl _ X)
  generalize X.drew = Y at *
  refine wpAnyH_take (i := 0) (oi := { dst := some 27, op := Op.move (Operand.tmp 6), type := 130, pos := "places.go:88", after := #[], guard := none }) (v := .pointer (some ⟨bp, m * 19, none⟩)) rfl (by decide +kernel) (by decide +kernel) (by decide +kernel) (fun _ _ _ h => absurd h.1 (by simp)) (Or.inl ⟨by rfl, fun wq hSq => by first | rfl | go_simp⟩) hS ?_
  simp only [Act.put, List.setIfInBounds_toArray, List.set_cons_zero, List.set_cons_succ]
  refine wpAnyH_take (i := 1) (oi := { dst := some 28, op := Op.nilCheck (Operand.tmp 27), type := 0, pos := "places.go:88", after := #[{ on := 0, ground := Ground.data }], guard := none }) (v := .pointer (some ⟨bp, m * 19, none⟩)) rfl (by decide +kernel) (by decide +kernel) (by decide +kernel) (fun _ _ _ h => absurd h.1 (by simp)) (Or.inl ⟨by rfl, fun wq hSq => by first | rfl | go_simp⟩) hS ?_
  simp only [Act.put, List.setIfInBounds_toArray, List.set_cons_zero, List.set_cons_succ]
  refine wpAnyH_take (i := 2) (oi := { dst := some 29, op := Op.fieldAddr 69 (Operand.tmp 28) 0, type := 0, pos := "places.go:88", after := #[{ on := 1, ground := Ground.data }], guard := none }) (v := .pointer (some ⟨bp, m * 19, none⟩)) rfl (by decide +kernel) (by decide +kernel) (by decide +kernel) (fun _ _ _ h => absurd h.1 (by simp)) (Or.inl ⟨by rfl, fun wq hSq => by first | rfl | go_simp⟩) hS ?_
  simp only [Act.put, List.setIfInBounds_toArray, List.set_cons_zero, List.set_cons_succ]
  refine wpAnyH_take (i := 3) (oi := { dst := some 30, op := Op.load 67 (Operand.tmp 29), type := 67, pos := "places.go:88", after := #[{ on := 2, ground := Ground.data }], guard := none }) (v := .agg (setA s1)) rfl (by decide +kernel) (by decide +kernel) (by decide +kernel) (fun _ _ _ h => absurd h.1 (by simp)) (yieldsIf_load_mid (by rfl) 67 (.tmp 29) rfl bp (m * 19) rfl (setL s1) (.array 16 65) l1 under67 rfl (by rw [setL_len]; exact info67)) hS ?_
  simp only [Act.put, List.setIfInBounds_toArray, List.set_cons_zero, List.set_cons_succ]
  refine wpAnyH_take (i := 4) (oi := { dst := some 31, op := Op.move (Operand.tmp 0), type := 129, pos := "places.go:88", after := #[], guard := none }) (v := .pointer (some ⟨br, 0, none⟩)) rfl (by decide +kernel) (by decide +kernel) (by decide +kernel) (fun _ _ _ h => absurd h.1 (by simp)) (Or.inl ⟨by rfl, fun wq hSq => by first | rfl | go_simp⟩) hS ?_
  simp only [Act.put, List.setIfInBounds_toArray, List.set_cons_zero, List.set_cons_succ]
  refine wpAnyH_take (i := 5) (oi := { dst := some 32, op := Op.nilCheck (Operand.tmp 31), type := 0, pos := "places.go:88", after := #[{ on := 4, ground := Ground.data }], guard := none }) (v := .pointer (some ⟨br, 0, none⟩)) rfl (by decide +kernel) (by decide +kernel) (by decide +kernel) (fun _ _ _ h => absurd h.1 (by simp)) (Or.inl ⟨by rfl, fun wq hSq => by first | rfl | go_simp⟩) hS ?_
  simp only [Act.put, List.setIfInBounds_toArray, List.set_cons_zero, List.set_cons_succ]
  refine wpAnyH_take (i := 6) (oi := { dst := some 33, op := Op.fieldAddr 100 (Operand.tmp 32) 0, type := 0, pos := "places.go:88", after := #[{ on := 5, ground := Ground.data }], guard := none }) (v := .pointer (some ⟨br, 0, none⟩)) rfl (by decide +kernel) (by decide +kernel) (by decide +kernel) (fun _ _ _ h => absurd h.1 (by simp)) (Or.inl ⟨by rfl, fun wq hSq => by first | rfl | go_simp⟩) hS ?_
  simp only [Act.put, List.setIfInBounds_toArray, List.set_cons_zero, List.set_cons_succ]
  refine wpAnyH_take (i := 7) (oi := { dst := some 34, op := Op.load 63 (Operand.tmp 33), type := 63, pos := "places.go:88", after := #[{ on := 6, ground := Ground.data }], guard := none }) (v := .slice (some ⟨bp, 0, none⟩) N N) rfl (by decide +kernel) (by decide +kernel) (by decide +kernel) (fun _ _ _ h => absurd h.1 (by simp)) (Or.inl ⟨by rfl, fun wq hSq => by (have q := c0 wq hSq; go_simp)⟩) hS ?_
  simp only [Act.put, List.setIfInBounds_toArray, List.set_cons_zero, List.set_cons_succ]
  refine wpAnyH_take (i := 8) (oi := { dst := some 35, op := Op.move (Operand.tmp 1), type := 3, pos := "places.go:88", after := #[], guard := none }) (v := .int .i64 (at_ : Nat)) rfl (by decide +kernel) (by decide +kernel) (by decide +kernel) (fun _ _ _ h => absurd h.1 (by simp)) (Or.inl ⟨by rfl, fun wq hSq => by first | rfl | go_simp⟩) hS ?_
  simp only [Act.put, List.setIfInBounds_toArray, List.set_cons_zero, List.set_cons_succ]
  refine wpAnyH_take (i := 9) (oi := { dst := some 36, op := Op.indexAddr 63 (Operand.tmp 34) (Operand.tmp 35), type := 0, pos := "places.go:88", after := #[{ on := 7, ground := Ground.data }, { on := 8, ground := Ground.data }], guard := none }) (v := .pointer (some ⟨bp, at_ * 19, none⟩)) rfl (by decide +kernel) (by decide +kernel) (by decide +kernel) (fun _ _ _ h => absurd h.1 (by simp)) (Or.inl ⟨by rfl, fun wq hSq => by first | rfl | go_simp⟩) hS ?_
  simp only [Act.put, List.setIfInBounds_toArray, List.set_cons_zero, List.set_cons_succ]
  refine wpAnyH_take (i := 10) (oi := { dst := some 37, op := Op.fieldAddr 69 (Operand.tmp 36) 0, type := 0, pos := "places.go:88", after := #[{ on := 9, ground := Ground.data }], guard := none }) (v := .pointer (some ⟨bp, at_ * 19, none⟩)) rfl (by decide +kernel) (by decide +kernel) (by decide +kernel) (fun _ _ _ h => absurd h.1 (by simp)) (Or.inl ⟨by rfl, fun wq hSq => by first | rfl | go_simp⟩) hS ?_
  simp only [Act.put, List.setIfInBounds_toArray, List.set_cons_zero, List.set_cons_succ]
  refine wpAnyH_take (i := 11) (oi := { dst := some 38, op := Op.load 67 (Operand.tmp 37), type := 67, pos := "places.go:88", after := #[{ on := 10, ground := Ground.data }], guard := none }) (v := .agg (setA s2)) rfl (by decide +kernel) (by decide +kernel) (by decide +kernel) (fun _ _ _ h => absurd h.1 (by simp)) (yieldsIf_load_mid (by rfl) 67 (.tmp 37) rfl bp (at_ * 19) rfl (setL s2) (.array 16 65) l2 under67 rfl (by rw [setL_len]; exact info67)) hS ?_
  simp only [Act.put, List.setIfInBounds_toArray, List.set_cons_zero, List.set_cons_succ]
  refine wpAnyH_take (i := 12) (oi := { dst := some 39, op := Op.move (Operand.tmp 6), type := 130, pos := "places.go:88", after := #[], guard := none }) (v := .pointer (some ⟨bp, m * 19, none⟩)) rfl (by decide +kernel) (by decide +kernel) (by decide +kernel) (fun _ _ _ h => absurd h.1 (by simp)) (Or.inl ⟨by rfl, fun wq hSq => by first | rfl | go_simp⟩) hS ?_
  simp only [Act.put, List.setIfInBounds_toArray, List.set_cons_zero, List.set_cons_succ]
  refine wpAnyH_take (i := 13) (oi := { dst := some 40, op := Op.nilCheck (Operand.tmp 39), type := 0, pos := "places.go:88", after := #[{ on := 12, ground := Ground.data }], guard := none }) (v := .pointer (some ⟨bp, m * 19, none⟩)) rfl (by decide +kernel) (by decide +kernel) (by decide +kernel) (fun _ _ _ h => absurd h.1 (by simp)) (Or.inl ⟨by rfl, fun wq hSq => by first | rfl | go_simp⟩) hS ?_
  simp only [Act.put, List.setIfInBounds_toArray, List.set_cons_zero, List.set_cons_succ]
  refine wpAnyH_take (i := 14) (oi := { dst := some 41, op := Op.fieldAddr 69 (Operand.tmp 40) 1, type := 0, pos := "places.go:88", after := #[{ on := 13, ground := Ground.data }], guard := none }) (v := .pointer (some ⟨bp, m * 19 + 16, none⟩)) rfl (by decide +kernel) (by decide +kernel) (by decide +kernel) (fun _ _ _ h => absurd h.1 (by simp)) (Or.inl ⟨by rfl, fun wq hSq => by first | rfl | go_simp⟩) hS ?_
  simp only [Act.put, List.setIfInBounds_toArray, List.set_cons_zero, List.set_cons_succ]
  refine wpAnyH_take (i := 15) (oi := { dst := some 42, op := Op.load 3 (Operand.tmp 41), type := 3, pos := "places.go:88", after := #[{ on := 14, ground := Ground.data }], guard := none }) (v := .int .i64 wr1) rfl (by decide +kernel) (by decide +kernel) (by decide +kernel) (fun _ _ _ h => absurd h.1 (by simp)) (Or.inl ⟨by rfl, fun wq hSq => by (have q := cw wq hSq; go_simp)⟩) hS ?_
  simp only [Act.put, List.setIfInBounds_toArray, List.set_cons_zero, List.set_cons_succ]
  refine wpAnyH_ready (rs := [16, 18]) (by decide +kernel) (by simp) ?_
  refine AllReadyH.cons (o := { dst := some 43, op := Op.call { callee := Callee.value (Operand.func 72), args := #[Operand.tmp 38, Operand.tmp 42], argTypes := #[67, 3] }, type := 67, pos := "places.go:88", after := #[{ on := 11, ground := Ground.data }, { on := 15, ground := Ground.data }], guard := none }) rfl (fun K hK => ?_) ?_
  · skip
    go_simp
    refine (C72 _).mono ?_
    rintro e Y1 ⟨rfl, f1⟩
    have hS := hS.trans f1
    refine hK.out _ _ hS (fun _ => ?_)
    clear hK K
    try simp only [Act.put, List.setIfInBounds_toArray, List.set_cons_zero, List.set_cons_succ]
    refine wpAnyH_ready (rs := [17, 18]) (by decide +kernel) (by simp) ?_
    refine AllReadyH.cons (o := { dst := some 44, op := Op.call { callee := Callee.value (Operand.func 71), args := #[Operand.tmp 30, Operand.tmp 43], argTypes := #[67, 67] }, type := 67, pos := "places.go:88", after := #[{ on := 3, ground := Ground.data }, { on := 16, ground := Ground.data }, { on := 16, ground := Ground.chain }], guard := none }) rfl (fun K hK => ?_) ?_
    · skip
      go_simp
      refine (C71 _).mono ?_
      rintro e Y2 ⟨rfl, f2⟩
      have hS := hS.trans f2
      refine hK.out _ _ hS (fun _ => ?_)
      clear hK K
      try simp only [Act.put, List.setIfInBounds_toArray, List.set_cons_zero, List.set_cons_succ]
      refine wpAnyH_ready (rs := [18]) (by decide +kernel) (by simp) ?_
      refine AllReadyH.cons (o := { dst := some 7, op := Op.alloc 67, type := 0, pos := "places.go:88", after := #[], guard := none }) rfl (fun K hK => ?_) AllReadyH.nil
      go_simp
      have hn : X.heap.size ≤ Y2.heap.size := hS.size
      have bA : (Y2.alloc (.cells #[.int .u64 0, .int .u64 0, .int .u64 0, .int .u64 0, .int .u64 0, .int .u64 0, .int .u64 0, .int .u64 0, .int .u64 0, .int .u64 0, .int .u64 0, .int .u64 0, .int .u64 0, .int .u64 0, .int .u64 0, .int .u64 0] 67)).heap[Y2.heap.size]? = some (.cells #[.int .u64 0, .int .u64 0, .int .u64 0, .int .u64 0, .int .u64 0, .int .u64 0, .int .u64 0, .int .u64 0, .int .u64 0, .int .u64 0, .int .u64 0, .int .u64 0, .int .u64 0, .int .u64 0, .int .u64 0, .int .u64 0] 67 (0, 0)) := heap_alloc_new _ _
      have hS := hS.alloc (.cells #[.int .u64 0, .int .u64 0, .int .u64 0, .int .u64 0, .int .u64 0, .int .u64 0, .int .u64 0, .int .u64 0, .int .u64 0, .int .u64 0, .int .u64 0, .int .u64 0, .int .u64 0, .int .u64 0, .int .u64 0, .int .u64 0] 67)
      generalize Y2.alloc (.cells #[.int .u64 0, .int .u64 0, .int .u64 0, .int .u64 0, .int .u64 0, .int .u64 0, .int .u64 0, .int .u64 0, .int .u64 0, .int .u64 0, .int .u64 0, .int .u64 0, .int .u64 0, .int .u64 0, .int .u64 0, .int .u64 0] 67) = YA at *
      generalize Y2.heap.size = nb at *
      refine hK.out _ _ hS (fun _ => ?_)
      clear hK K
      try simp only [Act.put, List.setIfInBounds_toArray, List.set_cons_zero, List.set_cons_succ]
      refine wpAnyH_ready (rs := [19]) (by decide +kernel) (by simp) ?_
      refine AllReadyH.cons (o := { dst := none, op := Op.store 67 (Operand.tmp 7) (Operand.tmp 44), type := 0, pos := "places.go:88", after := #[{ on := 18, ground := Ground.data }, { on := 17, ground := Ground.data }, { on := 17, ground := Ground.chain }, { on := 0, ground := Ground.phase }, { on := 1, ground := Ground.phase }, { on := 2, ground := Ground.phase }, { on := 3, ground := Ground.phase }, { on := 4, ground := Ground.phase }, { on := 5, ground := Ground.phase }, { on := 6, ground := Ground.phase }, { on := 7, ground := Ground.phase }, { on := 8, ground := Ground.phase }, { on := 9, ground := Ground.phase }, { on := 10, ground := Ground.phase }, { on := 11, ground := Ground.phase }, { on := 12, ground := Ground.phase }, { on := 13, ground := Ground.phase }, { on := 14, ground := Ground.phase }, { on := 15, ground := Ground.phase }, { on := 16, ground := Ground.phase }, { on := 17, ground := Ground.phase }, { on := 18, ground := Ground.phase }], guard := none }) rfl (fun K hK => ?_) AllReadyH.nil
      rw [if_pos (by rfl)]
      refine wp_store_row 67 (.tmp 7) (.tmp 44) rfl nb (setA s3) rfl rfl 67 _ bA (by rw [setA_size]; exact info67) (by rw [setA_size]; rfl) (setA_one _) ?_
      have bA := row_new (C := setA s3) bA
      have hS := hS.setRow (k := nb) (.inr hn) (setA s3)
      refine hK.out _ _ hS (fun _ => ?_)
      clear hK K
      try simp only [Act.put, List.setIfInBounds_toArray, List.set_cons_zero, List.set_cons_succ]
      refine wpAnyH_done (by decide +kernel) ?_ _
      exact ⟨rfl, h _ _ _ _ _ _ _ _ _ _ _ _ _ _ _ _ _ _ _ _ hS bA hn⟩
    refine AllReadyH.cons (o := { dst := some 7, op := Op.alloc 67, type := 0, pos := "places.go:88", after := #[], guard := none }) rfl (fun K hK => ?_) AllReadyH.nil
    go_simp
    have hn : X.heap.size ≤ Y1.heap.size := hS.size
    have bA : (Y1.alloc (.cells #[.int .u64 0, .int .u64 0, .int .u64 0, .int .u64 0, .int .u64 0, .int .u64 0, .int .u64 0, .int .u64 0, .int .u64 0, .int .u64 0, .int .u64 0, .int .u64 0, .int .u64 0, .int .u64 0, .int .u64 0, .int .u64 0] 67)).heap[Y1.heap.size]? = some (.cells #[.int .u64 0, .int .u64 0, .int .u64 0, .int .u64 0, .int .u64 0, .int .u64 0, .int .u64 0, .int .u64 0, .int .u64 0, .int .u64 0, .int .u64 0, .int .u64 0, .int .u64 0, .int .u64 0, .int .u64 0, .int .u64 0] 67 (0, 0)) := heap_alloc_new _ _
    have hS := hS.alloc (.cells #[.int .u64 0, .int .u64 0, .int .u64 0, .int .u64 0, .int .u64 0, .int .u64 0, .int .u64 0, .int .u64 0, .int .u64 0, .int .u64 0, .int .u64 0, .int .u64 0, .int .u64 0, .int .u64 0, .int .u64 0, .int .u64 0] 67)
    generalize Y1.alloc (.cells #[.int .u64 0, .int .u64 0, .int .u64 0, .int .u64 0, .int .u64 0, .int .u64 0, .int .u64 0, .int .u64 0, .int .u64 0, .int .u64 0, .int .u64 0, .int .u64 0, .int .u64 0, .int .u64 0, .int .u64 0, .int .u64 0] 67) = YA at *
    generalize Y1.heap.size = nb at *
    refine hK.out _ _ hS (fun _ => ?_)
    clear hK K
    try simp only [Act.put, List.setIfInBounds_toArray, List.set_cons_zero, List.set_cons_succ]
    refine wpAnyH_ready (rs := [17]) (by decide +kernel) (by simp) ?_
    refine AllReadyH.cons (o := { dst := some 44, op := Op.call { callee := Callee.value (Operand.func 71), args := #[Operand.tmp 30, Operand.tmp 43], argTypes := #[67, 67] }, type := 67, pos := "places.go:88", after := #[{ on := 3, ground := Ground.data }, { on := 16, ground := Ground.data }, { on := 16, ground := Ground.chain }], guard := none }) rfl (fun K hK => ?_) AllReadyH.nil
    go_simp
    refine (C71 _).mono ?_
    rintro e Y2 ⟨rfl, f2⟩
    have hS := hS.trans f2
    have bA := f2.at bA (by simp)
    refine hK.out _ _ hS (fun _ => ?_)
    clear hK K
    try simp only [Act.put, List.setIfInBounds_toArray, List.set_cons_zero, List.set_cons_succ]
    refine wpAnyH_ready (rs := [19]) (by decide +kernel) (by simp) ?_
    refine AllReadyH.cons (o := { dst := none, op := Op.store 67 (Operand.tmp 7) (Operand.tmp 44), type := 0, pos := "places.go:88", after := #[{ on := 18, ground := Ground.data }, { on := 17, ground := Ground.data }, { on := 17, ground := Ground.chain }, { on := 0, ground := Ground.phase }, { on := 1, ground := Ground.phase }, { on := 2, ground := Ground.phase }, { on := 3, ground := Ground.phase }, { on := 4, ground := Ground.phase }, { on := 5, ground := Ground.phase }, { on := 6, ground := Ground.phase }, { on := 7, ground := Ground.phase }, { on := 8, ground := Ground.phase }, { on := 9, ground := Ground.phase }, { on := 10, ground := Ground.phase }, { on := 11, ground := Ground.phase }, { on := 12, ground := Ground.phase }, { on := 13, ground := Ground.phase }, { on := 14, ground := Ground.phase }, { on := 15, ground := Ground.phase }, { on := 16, ground := Ground.phase }, { on := 17, ground := Ground.phase }, { on := 18, ground := Ground.phase }], guard := none }) rfl (fun K hK => ?_) AllReadyH.nil
    rw [if_pos (by rfl)]
    refine wp_store_row 67 (.tmp 7) (.tmp 44) rfl nb (setA s3) rfl rfl 67 _ bA (by rw [setA_size]; exact info67) (by rw [setA_size]; rfl) (setA_one _) ?_
    have bA := row_new (C := setA s3) bA
    have hS := hS.setRow (k := nb) (.inr hn) (setA s3)
    refine hK.out _ _ hS (fun _ => ?_)
    clear hK K
    try simp only [Act.put, List.setIfInBounds_toArray, List.set_cons_zero, List.set_cons_succ]
    refine wpAnyH_done (by decide +kernel) ?_ _
    exact ⟨rfl, h _ _ _ _ _ _ _ _ _ _ _ _ _ _ _ _ _ _ _ _ hS bA hn⟩
  refine AllReadyH.cons (o := { dst := some 7, op := Op.alloc 67, type := 0, pos := "places.go:88", after := #[], guard := none }) rfl (fun K hK => ?_) AllReadyH.nil
  go_simp
  have hn : X.heap.size ≤ Y.heap.size := hS.size
  have bA : (Y.alloc (.cells #[.int .u64 0, .int .u64 0, .int .u64 0, .int .u64 0, .int .u64 0, .int .u64 0, .int .u64 0, .int .u64 0, .int .u64 0, .int .u64 0, .int .u64 0, .int .u64 0, .int .u64 0, .int .u64 0, .int .u64 0, .int .u64 0] 67)).heap[Y.heap.size]? = some (.cells #[.int .u64 0, .int .u64 0, .int .u64 0, .int .u64 0, .int .u64 0, .int .u64 0, .int .u64 0, .int .u64 0, .int .u64 0, .int .u64 0, .int .u64 0, .int .u64 0, .int .u64 0, .int .u64 0, .int .u64 0, .int .u64 0] 67 (0, 0)) := heap_alloc_new _ _
  have hS := hS.alloc (.cells #[.int .u64 0, .int .u64 0, .int .u64 0, .int .u64 0, .int .u64 0, .int .u64 0, .int .u64 0, .int .u64 0, .int .u64 0, .int .u64 0, .int .u64 0, .int .u64 0, .int .u64 0, .int .u64 0, .int .u64 0, .int .u64 0] 67)
  generalize Y.alloc (.cells #[.int .u64 0, .int .u64 0, .int .u64 0, .int .u64 0, .int .u64 0, .int .u64 0, .int .u64 0, .int .u64 0, .int .u64 0, .int .u64 0, .int .u64 0, .int .u64 0, .int .u64 0, .int .u64 0, .int .u64 0, .int .u64 0] 67) = YA at *
  generalize Y.heap.size = nb at *
  refine hK.out _ _ hS (fun _ => ?_)
  clear hK K
  try simp only [Act.put, List.setIfInBounds_toArray, List.set_cons_zero, List.set_cons_succ]
  refine wpAnyH_ready (rs := [16]) (by decide +kernel) (by simp) ?_
  refine AllReadyH.cons (o := { dst := some 43, op := Op.call { callee := Callee.value (Operand.func 72), args := #[Operand.tmp 38, Operand.tmp 42], argTypes := #[67, 3] }, type := 67, pos := "places.go:88", after := #[{ on := 11, ground := Ground.data }, { on := 15, ground := Ground.data }], guard := none }) rfl (fun K hK => ?_) AllReadyH.nil
  go_simp
  refine (C72 _).mono ?_
  rintro e Y1 ⟨rfl, f1⟩
  have hS := hS.trans f1
  have bA := f1.at bA (by simp)
  refine hK.out _ _ hS (fun _ => ?_)
  clear hK K
  try simp only [Act.put, List.setIfInBounds_toArray, List.set_cons_zero, List.set_cons_succ]
  refine wpAnyH_ready (rs := [17]) (by decide +kernel) (by simp) ?_
  refine AllReadyH.cons (o := { dst := some 44, op := Op.call { callee := Callee.value (Operand.func 71), args := #[Operand.tmp 30, Operand.tmp 43], argTypes := #[67, 67] }, type := 67, pos := "places.go:88", after := #[{ on := 3, ground := Ground.data }, { on := 16, ground := Ground.data }, { on := 16, ground := Ground.chain }], guard := none }) rfl (fun K hK => ?_) AllReadyH.nil
  go_simp
  refine (C71 _).mono ?_
  rintro e Y2 ⟨rfl, f2⟩
  have hS := hS.trans f2
  have bA := f2.at bA (by simp)
  refine hK.out _ _ hS (fun _ => ?_)
  clear hK K
  try simp only [Act.put, List.setIfInBounds_toArray, List.set_cons_zero, List.set_cons_succ]
  refine wpAnyH_ready (rs := [19]) (by decide +kernel) (by simp) ?_
  refine AllReadyH.cons (o := { dst := none, op := Op.store 67 (Operand.tmp 7) (Operand.tmp 44), type := 0, pos := "places.go:88", after := #[{ on := 18, ground := Ground.data }, { on := 17, ground := Ground.data }, { on := 17, ground := Ground.chain }, { on := 0, ground := Ground.phase }, { on := 1, ground := Ground.phase }, { on := 2, ground := Ground.phase }, { on := 3, ground := Ground.phase }, { on := 4, ground := Ground.phase }, { on := 5, ground := Ground.phase }, { on := 6, ground := Ground.phase }, { on := 7, ground := Ground.phase }, { on := 8, ground := Ground.phase }, { on := 9, ground := Ground.phase }, { on := 10, ground := Ground.phase }, { on := 11, ground := Ground.phase }, { on := 12, ground := Ground.phase }, { on := 13, ground := Ground.phase }, { on := 14, ground := Ground.phase }, { on := 15, ground := Ground.phase }, { on := 16, ground := Ground.phase }, { on := 17, ground := Ground.phase }, { on := 18, ground := Ground.phase }], guard := none }) rfl (fun K hK => ?_) AllReadyH.nil
  rw [if_pos (by rfl)]
  refine wp_store_row 67 (.tmp 7) (.tmp 44) rfl nb (setA s3) rfl rfl 67 _ bA (by rw [setA_size]; exact info67) (by rw [setA_size]; rfl) (setA_one _) ?_
  have bA := row_new (C := setA s3) bA
  have hS := hS.setRow (k := nb) (.inr hn) (setA s3)
  refine hK.out _ _ hS (fun _ => ?_)
  clear hK K
  try simp only [Act.put, List.setIfInBounds_toArray, List.set_cons_zero, List.set_cons_succ]
  refine wpAnyH_done (by decide +kernel) ?_ _
  exact ⟨rfl, h _ _ _ _ _ _ _ _ _ _ _ _ _ _ _ _ _ _ _ _ hS bA hn⟩
end Go.Proofs.YtajdnakpljgkpaaDoor
