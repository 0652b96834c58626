/-
  A key is met, and its rest is asked for: the regions of ProfileEach that draw their order; conditions: the book lies as told.
-/
import Derived.Test.YtjeddgjndpdhoaaPrV
namespace Go.Proofs.Ytjeddgjndpdhoaa
open Go.RowKit
set_option linter.unusedVariables false
set_option linter.unusedSimpArgs false
set_option maxRecDepth 100000 in
set_option maxHeartbeats 4000000 in
theorem reg6a {X : World} {b mb bb kb : Nat} {k : Ky} {S : Bk} {i t : Int} (hB : BA X b mb bb S) (hok : Ok S) (he : S.ent ≤ 1000000000) (hk : kw k) (l1 : ∀ w', Fr [b, mb] X w' → w'.rangeAt kb 0 (kc k).toList) (ht : 1 ≤ t) (hi : 0 ≤ i)
    {Q : Exit → Act → World → Prop} {u0 u2 u4 u5 u6 u9 u10 u11 u12 u13 u14 u15 u16 u17 u18 u19 u20 u21 u22 u23 u24 u25 u26 u27 u28 u29 u30 u31 u32 u33 u34 u35 u36 u37 u38 u39 u40 u41 u42 u43 u44 : Value}
    (h : ∀ X2, Fr [b, mb] X X2 → BA X2 b mb bb (hitB S k).1 → Q .normal { tmps := #[u0, .int .i64 t, u2, .pointer (some ⟨kb, 0, none⟩), u4, u5, u6, .pointer (some ⟨b, 0, none⟩), .int .i64 i, u9, u10, u11, u12, u13, u14, u15, u16, u17, u18, u19, u20, u21, u22, u23, u24, u25, u26, u27, u28, u29, .pointer (some ⟨b, 0, none⟩), .agg (kc k), .bool (hitB S k).2, .int .i64 i, .int .i64 t, .int .i64 (Int.tmod i t), .bool (Int.tmod i t == 0), .bool ((hitB S k).2 != (Int.tmod i t == 0)), u38, u39, u40, u41, u42, u43, u44], defers := [] } X2) :
    (Code.region 11 #[{ dst := some 30, op := Op.move (Operand.tmp 7), type := 33, pos := "law.go:119", after := #[], guard := none }, { dst := some 31, op := Op.load 28 (Operand.tmp 3), type := 28, pos := "law.go:119", after := #[], guard := none }, { dst := some 32, op := Op.call { callee := Callee.value (Operand.func 16), args := #[Operand.tmp 30, Operand.tmp 31], argTypes := #[33, 28] }, type := 4, pos := "law.go:119", after := #[{ on := 0, ground := Ground.data }, { on := 1, ground := Ground.data }], guard := none }, { dst := some 33, op := Op.move (Operand.tmp 8), type := 3, pos := "law.go:119", after := #[], guard := none }, { dst := some 34, op := Op.move (Operand.tmp 1), type := 3, pos := "law.go:119", after := #[], guard := none }, { dst := some 35, op := Op.binOp BinOp.rem 3 (Operand.tmp 33) (Operand.tmp 34) 3, type := 3, pos := "law.go:119", after := #[{ on := 3, ground := Ground.data }, { on := 4, ground := Ground.data }], guard := none }, { dst := some 36, op := Op.binOp BinOp.eql 3 (Operand.tmp 35) (Operand.const (Value.int IntKind.i64 0)) 3, type := 4, pos := "law.go:119", after := #[{ on := 5, ground := Ground.data }], guard := none }, { dst := some 37, op := Op.binOp BinOp.neq 4 (Operand.tmp 32) (Operand.tmp 36) 4, type := 4, pos := "law.go:119", after := #[{ on := 2, ground := Ground.data }, { on := 6, ground := Ground.data }], guard := none }] true).wp Try.prog Q { tmps := #[u0, .int .i64 t, u2, .pointer (some ⟨kb, 0, none⟩), u4, u5, u6, .pointer (some ⟨b, 0, none⟩), .int .i64 i, u9, u10, u11, u12, u13, u14, u15, u16, u17, u18, u19, u20, u21, u22, u23, u24, u25, u26, u27, u28, u29, u30, u31, u32, u33, u34, u35, u36, u37, u38, u39, u40, u41, u42, u43, u44], defers := [] } X := by
  have ht0 : t ≠ 0 := by omega
  have htn : t ≠ -1 := by omega
  refine wp_mono (Q := Plain (fun a w => Q .normal a w)) ?_ (fun e a w h => by obtain ⟨rfl, h2⟩ := h; exact h2)
  refine wp_region_held (S := fun w' => Fr [b, mb] X w') (by kernel_rfl) ?_
  change wpAnyH _ _ _ _ _ _ _ _ X.drew
  have hS : Fr [b, mb] X X.drew := Fr.drew (Fr.refl _ X)
  have hB : BA X.drew b mb bb S := hB.drew
  generalize X.drew = Y at *
  refine wpAnyH_take (i := 0) (oi := { dst := some 30, op := Op.move (Operand.tmp 7), type := 33, pos := "law.go:119", after := #[], guard := none }) (v := .pointer (some ⟨b, 0, none⟩)) rfl (by decide +kernel) (by decide +kernel) (by decide +kernel) (fun _ _ _ h => absurd h.1 (by simp)) (Or.inl ⟨by rfl, fun wq hSq => by first | rfl | go_simp⟩) hS ?_
  simp only [Act.put, List.setIfInBounds_toArray, List.set_cons_zero, List.set_cons_succ]
  refine wpAnyH_take (i := 1) (oi := { dst := some 31, op := Op.load 28 (Operand.tmp 3), type := 28, pos := "law.go:119", after := #[], guard := none }) (v := .agg (kc k)) rfl (by decide +kernel) (by decide +kernel) (by decide +kernel) (fun _ _ _ h => absurd h.1 (by simp)) (yieldsIf28 (yieldsIf_load_mid (by rfl) 28 (.tmp 3) rfl kb 0 rfl (kc k).toList _ l1 Try.underlying28 rfl (by rw [info28]; simp [kc_size]))) hS ?_
  simp only [Act.put, List.setIfInBounds_toArray, List.set_cons_zero, List.set_cons_succ]
  refine wpAnyH_take (i := 3) (oi := { dst := some 33, op := Op.move (Operand.tmp 8), type := 3, pos := "law.go:119", after := #[], guard := none }) (v := .int .i64 i) rfl (by decide +kernel) (by decide +kernel) (by decide +kernel) (fun _ _ _ h => absurd h.1 (by simp)) (Or.inl ⟨by rfl, fun wq hSq => by first | rfl | go_simp⟩) hS ?_
  simp only [Act.put, List.setIfInBounds_toArray, List.set_cons_zero, List.set_cons_succ]
  refine wpAnyH_take (i := 4) (oi := { dst := some 34, op := Op.move (Operand.tmp 1), type := 3, pos := "law.go:119", after := #[], guard := none }) (v := .int .i64 t) rfl (by decide +kernel) (by decide +kernel) (by decide +kernel) (fun _ _ _ h => absurd h.1 (by simp)) (Or.inl ⟨by rfl, fun wq hSq => by first | rfl | go_simp⟩) hS ?_
  simp only [Act.put, List.setIfInBounds_toArray, List.set_cons_zero, List.set_cons_succ]
  refine wpAnyH_take (i := 5) (oi := { dst := some 35, op := Op.binOp BinOp.rem 3 (Operand.tmp 33) (Operand.tmp 34) 3, type := 3, pos := "law.go:119", after := #[{ on := 3, ground := Ground.data }, { on := 4, ground := Ground.data }], guard := none }) (v := .int .i64 (Int.tmod i t)) rfl (by decide +kernel) (by decide +kernel) (by decide +kernel) (fun _ _ _ h => absurd h.1 (by simp)) (Or.inl ⟨by rfl, fun wq hSq => by first | rfl | go_simp⟩) hS ?_
  simp only [Act.put, List.setIfInBounds_toArray, List.set_cons_zero, List.set_cons_succ]
  refine wpAnyH_take (i := 6) (oi := { dst := some 36, op := Op.binOp BinOp.eql 3 (Operand.tmp 35) (Operand.const (Value.int IntKind.i64 0)) 3, type := 4, pos := "law.go:119", after := #[{ on := 5, ground := Ground.data }], guard := none }) (v := .bool (Int.tmod i t == 0)) rfl (by decide +kernel) (by decide +kernel) (by decide +kernel) (fun _ _ _ h => absurd h.1 (by simp)) (Or.inl ⟨by rfl, fun wq hSq => by first | rfl | go_simp⟩) hS ?_
  simp only [Act.put, List.setIfInBounds_toArray, List.set_cons_zero, List.set_cons_succ]
  refine wpAnyH_ready (rs := [2]) (by decide +kernel) (by simp) ?_
  refine AllReadyH.cons (o := { dst := some 32, op := Op.call { callee := Callee.value (Operand.func 16), args := #[Operand.tmp 30, Operand.tmp 31], argTypes := #[33, 28] }, type := 4, pos := "law.go:119", after := #[{ on := 0, ground := Ground.data }, { on := 1, ground := Ground.data }], guard := none }) rfl (fun K hK => ?_) AllReadyH.nil
  go_simp
  refine (hit_any hB hok he hk).mono ?_
  rintro e Y1 ⟨rfl, f1, hB⟩
  have hS := hS.trans f1
  refine hK.out _ _ hS (fun _ => ?_)
  clear hK K
  try simp only [Act.put, List.setIfInBounds_toArray, List.set_cons_zero, List.set_cons_succ]
  refine wpAnyH_take (i := 7) (oi := { dst := some 37, op := Op.binOp BinOp.neq 4 (Operand.tmp 32) (Operand.tmp 36) 4, type := 4, pos := "law.go:119", after := #[{ on := 2, ground := Ground.data }, { on := 6, ground := Ground.data }], guard := none }) (v := .bool ((hitB S k).2 != (Int.tmod i t == 0))) rfl (by decide +kernel) (by decide +kernel) (by decide +kernel) (fun _ _ _ h => absurd h.1 (by simp)) (Or.inl ⟨by rfl, fun wq hSq => by first | rfl | go_simp⟩) hS ?_
  simp only [Act.put, List.setIfInBounds_toArray, List.set_cons_zero, List.set_cons_succ]
  refine wpAnyH_done (by decide +kernel) ?_ _
  exact ⟨rfl, h _ hS hB⟩
set_option maxRecDepth 100000 in
set_option maxHeartbeats 4000000 in
theorem reg6b {X : World} {b mb bb kb : Nat} {k : Ky} {S : Bk} {i t : Int} (hB : BA X b mb bb S) (hk : kw k) (l1 : ∀ w', Fr [] X w' → w'.rangeAt kb 0 (kc k).toList) (ht : 1 ≤ t) (hi : 0 ≤ i)
    {Q : Exit → Act → World → Prop} {u0 u4 u5 u6 u8 u9 u10 u11 u12 u13 u14 u15 u16 u17 u18 u19 u20 u21 u22 u23 u24 u25 u26 u27 u28 u29 u30 u31 u32 u33 u34 u35 u36 u37 u38 u39 u40 u41 u42 u43 u44 : Value}
    (h : ∀ X2, Fr [] X X2 → Q .normal { tmps := #[u0, .int .i64 t, .int .i64 i, .pointer (some ⟨kb, 0, none⟩), u4, u5, .bool (cntL S.L k == Int.tmod i t), .pointer (some ⟨b, 0, none⟩), u8, u9, u10, u11, u12, u13, u14, u15, u16, u17, u18, u19, u20, u21, u22, u23, u24, u25, u26, u27, u28, u29, u30, u31, u32, u33, u34, u35, u36, u37, .pointer (some ⟨b, 0, none⟩), .agg (kc k), .int .i64 (cntL S.L k), .int .i64 i, .int .i64 t, .int .i64 (Int.tmod i t), .bool (cntL S.L k == Int.tmod i t)], defers := [] } X2) :
    (Code.region 13 #[{ dst := some 38, op := Op.move (Operand.tmp 7), type := 33, pos := "law.go:123", after := #[], guard := none }, { dst := some 39, op := Op.load 28 (Operand.tmp 3), type := 28, pos := "law.go:123", after := #[], guard := none }, { dst := some 40, op := Op.call { callee := Callee.value (Operand.func 18), args := #[Operand.tmp 38, Operand.tmp 39], argTypes := #[33, 28] }, type := 3, pos := "law.go:123", after := #[{ on := 0, ground := Ground.data }, { on := 1, ground := Ground.data }], guard := none }, { dst := some 41, op := Op.move (Operand.tmp 2), type := 3, pos := "law.go:123", after := #[], guard := none }, { dst := some 42, op := Op.move (Operand.tmp 1), type := 3, pos := "law.go:123", after := #[], guard := none }, { dst := some 43, op := Op.binOp BinOp.rem 3 (Operand.tmp 41) (Operand.tmp 42) 3, type := 3, pos := "law.go:123", after := #[{ on := 3, ground := Ground.data }, { on := 4, ground := Ground.data }], guard := none }, { dst := some 44, op := Op.binOp BinOp.eql 3 (Operand.tmp 40) (Operand.tmp 43) 3, type := 4, pos := "law.go:123", after := #[{ on := 2, ground := Ground.data }, { on := 5, ground := Ground.data }], guard := none }, { dst := some 6, op := Op.assign (Operand.tmp 44), type := 4, pos := "law.go:123", after := #[{ on := 6, ground := Ground.data }, { on := 2, ground := Ground.chain }, { on := 0, ground := Ground.phase }, { on := 1, ground := Ground.phase }, { on := 2, ground := Ground.phase }, { on := 3, ground := Ground.phase }, { on := 4, ground := Ground.phase }, { on := 5, ground := Ground.phase }, { on := 6, ground := Ground.phase }], guard := none }] true).wp Try.prog Q { tmps := #[u0, .int .i64 t, .int .i64 i, .pointer (some ⟨kb, 0, none⟩), u4, u5, u6, .pointer (some ⟨b, 0, none⟩), u8, u9, u10, u11, u12, u13, u14, u15, u16, u17, u18, u19, u20, u21, u22, u23, u24, u25, u26, u27, u28, u29, u30, u31, u32, u33, u34, u35, u36, u37, u38, u39, u40, u41, u42, u43, u44], defers := [] } X := by
  have ht0 : t ≠ 0 := by omega
  have htn : t ≠ -1 := by omega
  refine wp_mono (Q := Plain (fun a w => Q .normal a w)) ?_ (fun e a w h => by obtain ⟨rfl, h2⟩ := h; exact h2)
  refine wp_region_held (S := fun w' => Fr [] X w') (by kernel_rfl) ?_
  change wpAnyH _ _ _ _ _ _ _ _ X.drew
  have hS : Fr [] X X.drew := Fr.drew (Fr.refl _ X)
  have hB : BA X.drew b mb bb S := hB.drew
  generalize X.drew = Y at *
  refine wpAnyH_take (i := 0) (oi := { dst := some 38, op := Op.move (Operand.tmp 7), type := 33, pos := "law.go:123", after := #[], guard := none }) (v := .pointer (some ⟨b, 0, none⟩)) rfl (by decide +kernel) (by decide +kernel) (by decide +kernel) (fun _ _ _ h => absurd h.1 (by simp)) (Or.inl ⟨by rfl, fun wq hSq => by first | rfl | go_simp⟩) hS ?_
  simp only [Act.put, List.setIfInBounds_toArray, List.set_cons_zero, List.set_cons_succ]
  refine wpAnyH_take (i := 1) (oi := { dst := some 39, op := Op.load 28 (Operand.tmp 3), type := 28, pos := "law.go:123", after := #[], guard := none }) (v := .agg (kc k)) rfl (by decide +kernel) (by decide +kernel) (by decide +kernel) (fun _ _ _ h => absurd h.1 (by simp)) (yieldsIf28 (yieldsIf_load_mid (by rfl) 28 (.tmp 3) rfl kb 0 rfl (kc k).toList _ l1 Try.underlying28 rfl (by rw [info28]; simp [kc_size]))) hS ?_
  simp only [Act.put, List.setIfInBounds_toArray, List.set_cons_zero, List.set_cons_succ]
  refine wpAnyH_take (i := 3) (oi := { dst := some 41, op := Op.move (Operand.tmp 2), type := 3, pos := "law.go:123", after := #[], guard := none }) (v := .int .i64 i) rfl (by decide +kernel) (by decide +kernel) (by decide +kernel) (fun _ _ _ h => absurd h.1 (by simp)) (Or.inl ⟨by rfl, fun wq hSq => by first | rfl | go_simp⟩) hS ?_
  simp only [Act.put, List.setIfInBounds_toArray, List.set_cons_zero, List.set_cons_succ]
  refine wpAnyH_take (i := 4) (oi := { dst := some 42, op := Op.move (Operand.tmp 1), type := 3, pos := "law.go:123", after := #[], guard := none }) (v := .int .i64 t) rfl (by decide +kernel) (by decide +kernel) (by decide +kernel) (fun _ _ _ h => absurd h.1 (by simp)) (Or.inl ⟨by rfl, fun wq hSq => by first | rfl | go_simp⟩) hS ?_
  simp only [Act.put, List.setIfInBounds_toArray, List.set_cons_zero, List.set_cons_succ]
  refine wpAnyH_take (i := 5) (oi := { dst := some 43, op := Op.binOp BinOp.rem 3 (Operand.tmp 41) (Operand.tmp 42) 3, type := 3, pos := "law.go:123", after := #[{ on := 3, ground := Ground.data }, { on := 4, ground := Ground.data }], guard := none }) (v := .int .i64 (Int.tmod i t)) rfl (by decide +kernel) (by decide +kernel) (by decide +kernel) (fun _ _ _ h => absurd h.1 (by simp)) (Or.inl ⟨by rfl, fun wq hSq => by first | rfl | go_simp⟩) hS ?_
  simp only [Act.put, List.setIfInBounds_toArray, List.set_cons_zero, List.set_cons_succ]
  refine wpAnyH_ready (rs := [2]) (by decide +kernel) (by simp) ?_
  refine AllReadyH.cons (o := { dst := some 40, op := Op.call { callee := Callee.value (Operand.func 18), args := #[Operand.tmp 38, Operand.tmp 39], argTypes := #[33, 28] }, type := 3, pos := "law.go:123", after := #[{ on := 0, ground := Ground.data }, { on := 1, ground := Ground.data }], guard := none }) rfl (fun K hK => ?_) AllReadyH.nil
  go_simp
  refine (count_any hB hk).mono ?_
  rintro e Y1 ⟨rfl, f1⟩
  have hS := hS.trans f1
  refine hK.out _ _ hS (fun _ => ?_)
  clear hK K
  try simp only [Act.put, List.setIfInBounds_toArray, List.set_cons_zero, List.set_cons_succ]
  refine wpAnyH_take (i := 6) (oi := { dst := some 44, op := Op.binOp BinOp.eql 3 (Operand.tmp 40) (Operand.tmp 43) 3, type := 4, pos := "law.go:123", after := #[{ on := 2, ground := Ground.data }, { on := 5, ground := Ground.data }], guard := none }) (v := .bool (cntL S.L k == Int.tmod i t)) rfl (by decide +kernel) (by decide +kernel) (by decide +kernel) (fun _ _ _ h => absurd h.1 (by simp)) (Or.inl ⟨by rfl, fun wq hSq => by first | rfl | go_simp⟩) hS ?_
  simp only [Act.put, List.setIfInBounds_toArray, List.set_cons_zero, List.set_cons_succ]
  refine wpAnyH_take (i := 7) (oi := { dst := some 6, op := Op.assign (Operand.tmp 44), type := 4, pos := "law.go:123", after := #[{ on := 6, ground := Ground.data }, { on := 2, ground := Ground.chain }, { on := 0, ground := Ground.phase }, { on := 1, ground := Ground.phase }, { on := 2, ground := Ground.phase }, { on := 3, ground := Ground.phase }, { on := 4, ground := Ground.phase }, { on := 5, ground := Ground.phase }, { on := 6, ground := Ground.phase }], guard := none }) (v := .bool (cntL S.L k == Int.tmod i t)) rfl (by decide +kernel) (by decide +kernel) (by decide +kernel) (fun _ _ _ h => absurd h.1 (by simp)) (Or.inl ⟨by rfl, fun wq hSq => by first | rfl | go_simp⟩) hS ?_
  simp only [Act.put, List.setIfInBounds_toArray, List.set_cons_zero, List.set_cons_succ]
  refine wpAnyH_done (by decide +kernel) ?_ _
  exact ⟨rfl, h _ hS⟩
end Go.Proofs.Ytjeddgjndpdhoaa
