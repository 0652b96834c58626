/-
  A key is looked up and its tally is kept: the regions of Hit that draw their order; conditions: the book lies as told.
-/
import Derived.Test.YtjeddgjndpdhoaaPrM
namespace Go.Proofs.Ytjeddgjndpdhoaa
open Go.RowKit
set_option linter.unusedVariables false
set_option linter.unusedSimpArgs false
theorem wp_update {o : Oper} {a : Act} {w w' : World} {K : Act → World → Prop} {Q : Exit → Act → World → Prop} (t : TypeId) (m x v : Operand) (hop : o.op = Op.mapUpdate t m x v) {mv key val : Value} (hm : a.eval m = mv) (hx : a.eval x = key) (hv : a.eval v = val) (hrun : (Instr.mapUpdate t mv key val).run Try.prog w = .ok () w') (h : K (a.put o.dst undef) w') : o.wp Try.prog a w K Q := by
  unfold Oper.wp
  simp [execOp, hop, hm, hx, hv, hrun, Result.andThen]
  exact h

set_option maxRecDepth 100000 in
set_option maxHeartbeats 4000000 in
theorem reg16a {X : World} {b mb kb : Nat} {k : Ky} {n s : Int} {hs : Bool} (c1 : ∀ w', Fr [] X w' → w'.cell? ⟨b, 1, none⟩ = some (.map (some mb))) (l1 : ∀ w', Fr [] X w' → w'.rangeAt kb 0 (kc k).toList)
    (lk : ∀ w', Fr [] X w' → (Instr.lookup 51 (.map (some mb)) (.agg (kc k)) true).run Try.prog w' = .ok (.tuple #[.agg #[.int .i64 n, .int .i64 s], .bool hs]) w')
    {Q : Exit → Act → World → Prop} {u1 u2 u4 u5 u6 u7 u8 u9 u10 u11 u12 u13 u14 u15 u16 u17 u18 u19 u20 u21 u22 u23 u24 u25 u26 u27 u28 u29 u30 u31 u32 u33 u34 u35 u36 u37 u38 u39 u40 u41 u42 u43 u44 u45 u46 u47 u48 : Value}
    (h : ∀ X2 nb, Fr [] X X2 → X2.heap[nb]? = some (.cells #[.int .i64 n, .int .i64 s] 60 (0, 0)) → X.heap.size ≤ nb → Q .normal { tmps := #[.pointer (some ⟨b, 0, none⟩), u1, u2, .pointer (some ⟨kb, 0, none⟩), u4, .pointer (some ⟨nb, 0, none⟩), .bool hs, u7, u8, u9, u10, u11, u12, u13, u14, u15, .tuple #[.agg #[.int .i64 n, .int .i64 s], .bool hs], .pointer (some ⟨b, 0, none⟩), .pointer (some ⟨b, 0, none⟩), .pointer (some ⟨b, 1, none⟩), .map (some mb), .agg (kc k), .tuple #[.agg #[.int .i64 n, .int .i64 s], .bool hs], .agg #[.int .i64 n, .int .i64 s], .bool hs, u25, u26, u27, u28, u29, u30, u31, u32, u33, u34, u35, u36, u37, u38, u39, u40, u41, u42, u43, u44, u45, u46, u47, u48], defers := [] } X2) :
    (Code.region 3 #[{ dst := some 17, op := Op.move (Operand.tmp 0), type := 33, pos := "profile.go:59", after := #[], guard := none }, { dst := some 18, op := Op.nilCheck (Operand.tmp 17), type := 0, pos := "profile.go:59", after := #[{ on := 0, ground := Ground.data }], guard := none }, { dst := some 19, op := Op.fieldAddr 54 (Operand.tmp 18) 1, type := 0, pos := "profile.go:59", after := #[{ on := 1, ground := Ground.data }], guard := none }, { dst := some 20, op := Op.load 51 (Operand.tmp 19), type := 51, pos := "profile.go:59", after := #[{ on := 2, ground := Ground.data }], guard := none }, { dst := some 21, op := Op.load 28 (Operand.tmp 3), type := 28, pos := "profile.go:59", after := #[], guard := none }, { dst := some 22, op := Op.lookup 51 (Operand.tmp 20) (Operand.tmp 21) true, type := 61, pos := "profile.go:59", after := #[{ on := 3, ground := Ground.data }, { on := 4, ground := Ground.data }], guard := none }, { dst := some 16, op := Op.move (Operand.tmp 22), type := 61, pos := "profile.go:59", after := #[{ on := 5, ground := Ground.data }], guard := none }, { dst := some 23, op := Op.extract (Operand.tmp 16) 0, type := 60, pos := "profile.go:59", after := #[{ on := 6, ground := Ground.data }], guard := none }, { dst := some 24, op := Op.extract (Operand.tmp 16) 1, type := 4, pos := "profile.go:59", after := #[{ on := 6, ground := Ground.data }, { on := 10, ground := Ground.gcOnly Departure.lateStores }], guard := none }, { dst := some 5, op := Op.alloc 60, type := 0, pos := "profile.go:59", after := #[], guard := none }, { dst := none, op := Op.store 60 (Operand.tmp 5) (Operand.tmp 23), type := 0, pos := "profile.go:59", after := #[{ on := 9, ground := Ground.data }, { on := 7, ground := Ground.data }, { on := 0, ground := Ground.phase }, { on := 1, ground := Ground.phase }, { on := 2, ground := Ground.phase }, { on := 3, ground := Ground.phase }, { on := 4, ground := Ground.phase }, { on := 5, ground := Ground.phase }, { on := 6, ground := Ground.phase }, { on := 7, ground := Ground.phase }, { on := 8, ground := Ground.textOnly Departure.lateStores }, { on := 9, ground := Ground.phase }], guard := none }, { dst := some 6, op := Op.assign (Operand.tmp 24), type := 4, pos := "profile.go:59", after := #[{ on := 8, ground := Ground.data }, { on := 10, ground := Ground.chain }, { on := 0, ground := Ground.phase }, { on := 1, ground := Ground.phase }, { on := 2, ground := Ground.phase }, { on := 3, ground := Ground.phase }, { on := 4, ground := Ground.phase }, { on := 5, ground := Ground.phase }, { on := 6, ground := Ground.phase }, { on := 7, ground := Ground.phase }, { on := 8, ground := Ground.phase }, { on := 9, ground := Ground.phase }, { on := 10, ground := Ground.phase }], guard := none }] true).wp Try.prog Q { tmps := #[.pointer (some ⟨b, 0, none⟩), u1, u2, .pointer (some ⟨kb, 0, none⟩), u4, u5, u6, u7, u8, u9, u10, u11, u12, u13, u14, u15, u16, u17, u18, u19, u20, u21, u22, u23, u24, u25, u26, u27, u28, u29, u30, u31, u32, u33, u34, u35, u36, u37, u38, u39, u40, u41, u42, u43, u44, u45, u46, u47, u48], defers := [] } X := by
  refine wp_mono (Q := Plain (fun a w => Q .normal a w)) ?_ (fun e a w h => by obtain ⟨rfl, h2⟩ := h; exact h2)
  refine wp_region_held (S := fun w' => Fr [] X w') (by kernel_rfl) ?_
  change wpAnyH _ _ _ _ _ _ _ _ X.drew
  have hS : Fr [] X X.drew := Fr.drew (Fr.refl _ X)
  generalize X.drew = Y at *
  refine wpAnyH_take (i := 0) (oi := { dst := some 17, op := Op.move (Operand.tmp 0), type := 33, pos := "profile.go:59", after := #[], guard := none }) (v := .pointer (some ⟨b, 0, none⟩)) rfl (by decide +kernel) (by decide +kernel) (by decide +kernel) (fun _ _ _ h => absurd h.1 (by simp)) (Or.inl ⟨by rfl, fun wq hSq => by first | rfl | go_simp⟩) hS ?_
  simp only [Act.put, List.setIfInBounds_toArray, List.set_cons_zero, List.set_cons_succ]
  refine wpAnyH_take (i := 1) (oi := { dst := some 18, op := Op.nilCheck (Operand.tmp 17), type := 0, pos := "profile.go:59", after := #[{ on := 0, ground := Ground.data }], guard := none }) (v := .pointer (some ⟨b, 0, none⟩)) rfl (by decide +kernel) (by decide +kernel) (by decide +kernel) (fun _ _ _ h => absurd h.1 (by simp)) (Or.inl ⟨by rfl, fun wq hSq => by first | rfl | go_simp⟩) hS ?_
  simp only [Act.put, List.setIfInBounds_toArray, List.set_cons_zero, List.set_cons_succ]
  refine wpAnyH_take (i := 2) (oi := { dst := some 19, op := Op.fieldAddr 54 (Operand.tmp 18) 1, type := 0, pos := "profile.go:59", after := #[{ on := 1, ground := Ground.data }], guard := none }) (v := .pointer (some ⟨b, 1, none⟩)) rfl (by decide +kernel) (by decide +kernel) (by decide +kernel) (fun _ _ _ h => absurd h.1 (by simp)) (Or.inl ⟨by rfl, fun wq hSq => by first | rfl | go_simp⟩) hS ?_
  simp only [Act.put, List.setIfInBounds_toArray, List.set_cons_zero, List.set_cons_succ]
  refine wpAnyH_take (i := 3) (oi := { dst := some 20, op := Op.load 51 (Operand.tmp 19), type := 51, pos := "profile.go:59", after := #[{ on := 2, ground := Ground.data }], guard := none }) (v := .map (some mb)) rfl (by decide +kernel) (by decide +kernel) (by decide +kernel) (fun _ _ _ h => absurd h.1 (by simp)) (Or.inl ⟨by rfl, fun wq hSq => by (have q := c1 wq hSq; go_simp)⟩) hS ?_
  simp only [Act.put, List.setIfInBounds_toArray, List.set_cons_zero, List.set_cons_succ]
  refine wpAnyH_take (i := 4) (oi := { dst := some 21, op := Op.load 28 (Operand.tmp 3), type := 28, pos := "profile.go:59", after := #[], guard := none }) (v := .agg (kc k)) rfl (by decide +kernel) (by decide +kernel) (by decide +kernel) (fun _ _ _ h => absurd h.1 (by simp)) (yieldsIf28 (yieldsIf_load_mid (by rfl) 28 (.tmp 3) rfl kb 0 rfl (kc k).toList _ l1 Try.underlying28 rfl (by rw [info28]; simp [kc_size]))) hS ?_
  simp only [Act.put, List.setIfInBounds_toArray, List.set_cons_zero, List.set_cons_succ]
  refine wpAnyH_take (i := 5) (oi := { dst := some 22, op := Op.lookup 51 (Operand.tmp 20) (Operand.tmp 21) true, type := 61, pos := "profile.go:59", after := #[{ on := 3, ground := Ground.data }, { on := 4, ground := Ground.data }], guard := none }) (v := .tuple #[.agg #[.int .i64 n, .int .i64 s], .bool hs]) rfl (by decide +kernel) (by decide +kernel) (by decide +kernel) (fun _ _ _ h => absurd h.1 (by simp)) (Or.inl ⟨by rfl, fun wq hSq => by (have q := lk wq hSq; go_simp)⟩) hS ?_
  simp only [Act.put, List.setIfInBounds_toArray, List.set_cons_zero, List.set_cons_succ]
  refine wpAnyH_take (i := 6) (oi := { dst := some 16, op := Op.move (Operand.tmp 22), type := 61, pos := "profile.go:59", after := #[{ on := 5, ground := Ground.data }], guard := none }) (v := .tuple #[.agg #[.int .i64 n, .int .i64 s], .bool hs]) rfl (by decide +kernel) (by decide +kernel) (by decide +kernel) (fun _ _ _ h => absurd h.1 (by simp)) (Or.inl ⟨by rfl, fun wq hSq => by first | rfl | go_simp⟩) hS ?_
  simp only [Act.put, List.setIfInBounds_toArray, List.set_cons_zero, List.set_cons_succ]
  refine wpAnyH_take (i := 7) (oi := { dst := some 23, op := Op.extract (Operand.tmp 16) 0, type := 60, pos := "profile.go:59", after := #[{ on := 6, ground := Ground.data }], guard := none }) (v := .agg #[.int .i64 n, .int .i64 s]) rfl (by decide +kernel) (by decide +kernel) (by decide +kernel) (fun _ _ _ h => absurd h.1 (by simp)) (Or.inl ⟨by rfl, fun wq hSq => by first | rfl | go_simp⟩) hS ?_
  simp only [Act.put, List.setIfInBounds_toArray, List.set_cons_zero, List.set_cons_succ]
  refine wpAnyH_take (i := 8) (oi := { dst := some 24, op := Op.extract (Operand.tmp 16) 1, type := 4, pos := "profile.go:59", after := #[{ on := 6, ground := Ground.data }, { on := 10, ground := Ground.gcOnly Departure.lateStores }], guard := none }) (v := .bool hs) rfl (by decide +kernel) (by decide +kernel) (by decide +kernel) (fun _ _ _ h => absurd h.1 (by simp)) (Or.inl ⟨by rfl, fun wq hSq => by first | rfl | go_simp⟩) hS ?_
  simp only [Act.put, List.setIfInBounds_toArray, List.set_cons_zero, List.set_cons_succ]
  refine wpAnyH_ready (rs := [9]) (by decide +kernel) (by simp) ?_
  refine AllReadyH.cons (o := { dst := some 5, op := Op.alloc 60, type := 0, pos := "profile.go:59", after := #[], guard := none }) rfl (fun K hK => ?_) AllReadyH.nil
  go_simp
  have hn : X.heap.size ≤ Y.heap.size := hS.size
  have bA : (Y.alloc (.cells #[.int .i64 0, .int .i64 0] 60)).heap[Y.heap.size]? = some (.cells #[.int .i64 0, .int .i64 0] 60 (0, 0)) := heap_alloc_new _ _
  have hS := hS.alloc (.cells #[.int .i64 0, .int .i64 0] 60)
  generalize Y.alloc (.cells #[.int .i64 0, .int .i64 0] 60) = YA at *
  generalize Y.heap.size = nb at *
  refine hK.out _ _ hS (fun _ => ?_)
  clear hK K
  try simp only [Act.put, List.setIfInBounds_toArray, List.set_cons_zero, List.set_cons_succ]
  refine wpAnyH_ready (rs := [10]) (by decide +kernel) (by simp) ?_
  refine AllReadyH.cons (o := { dst := none, op := Op.store 60 (Operand.tmp 5) (Operand.tmp 23), type := 0, pos := "profile.go:59", after := #[{ on := 9, ground := Ground.data }, { on := 7, ground := Ground.data }, { on := 0, ground := Ground.phase }, { on := 1, ground := Ground.phase }, { on := 2, ground := Ground.phase }, { on := 3, ground := Ground.phase }, { on := 4, ground := Ground.phase }, { on := 5, ground := Ground.phase }, { on := 6, ground := Ground.phase }, { on := 7, ground := Ground.phase }, { on := 8, ground := Ground.textOnly Departure.lateStores }, { on := 9, ground := Ground.phase }], guard := none }) rfl (fun K hK => ?_) AllReadyH.nil
  rw [if_pos (by rfl)]
  refine wp_store_row 60 (.tmp 5) (.tmp 23) rfl nb #[.int .i64 n, .int .i64 s] rfl rfl 60 _ bA (by rw [info60]; rfl) rfl (by simp [Value.oneCell']) ?_
  have bA := row_new (C := #[.int .i64 n, .int .i64 s]) bA
  have hS := hS.setRow (k := nb) (.inr hn) #[.int .i64 n, .int .i64 s]
  refine hK.out _ _ hS (fun _ => ?_)
  clear hK K
  try simp only [Act.put, List.setIfInBounds_toArray, List.set_cons_zero, List.set_cons_succ]
  refine wpAnyH_take (i := 11) (oi := { dst := some 6, op := Op.assign (Operand.tmp 24), type := 4, pos := "profile.go:59", after := #[{ on := 8, ground := Ground.data }, { on := 10, ground := Ground.chain }, { on := 0, ground := Ground.phase }, { on := 1, ground := Ground.phase }, { on := 2, ground := Ground.phase }, { on := 3, ground := Ground.phase }, { on := 4, ground := Ground.phase }, { on := 5, ground := Ground.phase }, { on := 6, ground := Ground.phase }, { on := 7, ground := Ground.phase }, { on := 8, ground := Ground.phase }, { on := 9, ground := Ground.phase }, { on := 10, ground := Ground.phase }], guard := none }) (v := .bool hs) rfl (by decide +kernel) (by decide +kernel) (by decide +kernel) (fun _ _ _ h => absurd h.1 (by simp)) (Or.inl ⟨by rfl, fun wq hSq => by first | rfl | go_simp⟩) hS ?_
  simp only [Act.put, List.setIfInBounds_toArray, List.set_cons_zero, List.set_cons_succ]
  refine wpAnyH_done (by decide +kernel) ?_ _
  exact ⟨rfl, h _ _ hS bA hn⟩
set_option maxRecDepth 100000 in
set_option maxHeartbeats 4000000 in
theorem reg16b {X : World} {b mb kb tb : Nat} {k : Ky} {n s : Int} {L : List Rw} (c1 : ∀ w', Fr [mb] X w' → w'.cell? ⟨b, 1, none⟩ = some (.map (some mb))) (l1 : ∀ w', Fr [mb] X w' → w'.rangeAt kb 0 (kc k).toList) (l2 : ∀ w', Fr [mb] X w' → w'.rangeAt tb 0 [.int .i64 n, .int .i64 s])
    (hcm : CM X mb L) (hL : L.length ≤ 100000) (hk : kw k)
    {Q : Exit → Act → World → Prop} {u1 u2 u4 u6 u7 u8 u9 u10 u11 u12 u13 u14 u15 u16 u17 u18 u19 u20 u21 u22 u23 u24 u25 u26 u27 u28 u29 u30 u31 u32 u33 u34 u35 u36 u37 u38 u39 u40 u41 u42 u43 u44 u45 u46 u47 u48 : Value}
    (h : ∀ X2, Fr [mb] X X2 → CM X2 mb (putL L k n s) → Q .normal { tmps := #[.pointer (some ⟨b, 0, none⟩), u1, u2, .pointer (some ⟨kb, 0, none⟩), u4, .pointer (some ⟨tb, 0, none⟩), u6, u7, u8, u9, u10, u11, u12, u13, u14, u15, u16, u17, u18, u19, u20, u21, u22, u23, u24, u25, u26, u27, u28, u29, u30, u31, u32, u33, u34, u35, u36, u37, u38, u39, u40, u41, .pointer (some ⟨b, 0, none⟩), .pointer (some ⟨b, 0, none⟩), .pointer (some ⟨b, 1, none⟩), .map (some mb), .agg (kc k), .agg #[.int .i64 n, .int .i64 s], u48], defers := [] } X2) :
    (Code.region 10 #[{ dst := some 42, op := Op.move (Operand.tmp 0), type := 33, pos := "profile.go:68", after := #[], guard := none }, { dst := some 43, op := Op.nilCheck (Operand.tmp 42), type := 0, pos := "profile.go:68", after := #[{ on := 0, ground := Ground.data }], guard := none }, { dst := some 44, op := Op.fieldAddr 54 (Operand.tmp 43) 1, type := 0, pos := "profile.go:68", after := #[{ on := 1, ground := Ground.data }], guard := none }, { dst := some 45, op := Op.load 51 (Operand.tmp 44), type := 51, pos := "profile.go:68", after := #[{ on := 2, ground := Ground.data }], guard := none }, { dst := some 46, op := Op.load 28 (Operand.tmp 3), type := 28, pos := "profile.go:68", after := #[], guard := none }, { dst := some 47, op := Op.load 60 (Operand.tmp 5), type := 60, pos := "profile.go:68", after := #[], guard := none }, { dst := none, op := Op.mapUpdate 51 (Operand.tmp 45) (Operand.tmp 46) (Operand.tmp 47), type := 0, pos := "profile.go:68", after := #[{ on := 3, ground := Ground.data }, { on := 4, ground := Ground.data }, { on := 5, ground := Ground.data }, { on := 0, ground := Ground.phase }, { on := 1, ground := Ground.phase }, { on := 2, ground := Ground.phase }, { on := 3, ground := Ground.phase }, { on := 4, ground := Ground.phase }, { on := 5, ground := Ground.phase }], guard := none }] true).wp Try.prog Q { tmps := #[.pointer (some ⟨b, 0, none⟩), u1, u2, .pointer (some ⟨kb, 0, none⟩), u4, .pointer (some ⟨tb, 0, none⟩), u6, u7, u8, u9, u10, u11, u12, u13, u14, u15, u16, u17, u18, u19, u20, u21, u22, u23, u24, u25, u26, u27, u28, u29, u30, u31, u32, u33, u34, u35, u36, u37, u38, u39, u40, u41, u42, u43, u44, u45, u46, u47, u48], defers := [] } X := by
  refine wp_mono (Q := Plain (fun a w => Q .normal a w)) ?_ (fun e a w h => by obtain ⟨rfl, h2⟩ := h; exact h2)
  refine wp_region_held (S := fun w' => Fr [mb] X w') (by kernel_rfl) ?_
  change wpAnyH _ _ _ _ _ _ _ _ X.drew
  have hS : Fr [mb] X X.drew := Fr.drew (Fr.refl _ X)
  have hcm : CM X.drew mb L := hcm.fr (Fr.drew (Fr.refl [] X)) (by simp)
  generalize X.drew = Y at *
  refine wpAnyH_take (i := 0) (oi := { dst := some 42, op := Op.move (Operand.tmp 0), type := 33, pos := "profile.go:68", after := #[], guard := none }) (v := .pointer (some ⟨b, 0, none⟩)) rfl (by decide +kernel) (by decide +kernel) (by decide +kernel) (fun _ _ _ h => absurd h.1 (by simp)) (Or.inl ⟨by rfl, fun wq hSq => by first | rfl | go_simp⟩) hS ?_
  simp only [Act.put, List.setIfInBounds_toArray, List.set_cons_zero, List.set_cons_succ]
  refine wpAnyH_take (i := 1) (oi := { dst := some 43, op := Op.nilCheck (Operand.tmp 42), type := 0, pos := "profile.go:68", after := #[{ on := 0, ground := Ground.data }], guard := none }) (v := .pointer (some ⟨b, 0, none⟩)) rfl (by decide +kernel) (by decide +kernel) (by decide +kernel) (fun _ _ _ h => absurd h.1 (by simp)) (Or.inl ⟨by rfl, fun wq hSq => by first | rfl | go_simp⟩) hS ?_
  simp only [Act.put, List.setIfInBounds_toArray, List.set_cons_zero, List.set_cons_succ]
  refine wpAnyH_take (i := 2) (oi := { dst := some 44, op := Op.fieldAddr 54 (Operand.tmp 43) 1, type := 0, pos := "profile.go:68", after := #[{ on := 1, ground := Ground.data }], guard := none }) (v := .pointer (some ⟨b, 1, none⟩)) rfl (by decide +kernel) (by decide +kernel) (by decide +kernel) (fun _ _ _ h => absurd h.1 (by simp)) (Or.inl ⟨by rfl, fun wq hSq => by first | rfl | go_simp⟩) hS ?_
  simp only [Act.put, List.setIfInBounds_toArray, List.set_cons_zero, List.set_cons_succ]
  refine wpAnyH_take (i := 3) (oi := { dst := some 45, op := Op.load 51 (Operand.tmp 44), type := 51, pos := "profile.go:68", after := #[{ on := 2, ground := Ground.data }], guard := none }) (v := .map (some mb)) rfl (by decide +kernel) (by decide +kernel) (by decide +kernel) (fun _ _ _ h => absurd h.1 (by simp)) (Or.inl ⟨by rfl, fun wq hSq => by (have q := c1 wq hSq; go_simp)⟩) hS ?_
  simp only [Act.put, List.setIfInBounds_toArray, List.set_cons_zero, List.set_cons_succ]
  refine wpAnyH_take (i := 4) (oi := { dst := some 46, op := Op.load 28 (Operand.tmp 3), type := 28, pos := "profile.go:68", after := #[], guard := none }) (v := .agg (kc k)) rfl (by decide +kernel) (by decide +kernel) (by decide +kernel) (fun _ _ _ h => absurd h.1 (by simp)) (yieldsIf28 (yieldsIf_load_mid (by rfl) 28 (.tmp 3) rfl kb 0 rfl (kc k).toList _ l1 Try.underlying28 rfl (by rw [info28]; simp [kc_size]))) hS ?_
  simp only [Act.put, List.setIfInBounds_toArray, List.set_cons_zero, List.set_cons_succ]
  refine wpAnyH_take (i := 5) (oi := { dst := some 47, op := Op.load 60 (Operand.tmp 5), type := 60, pos := "profile.go:68", after := #[], guard := none }) (v := .agg #[.int .i64 n, .int .i64 s]) rfl (by decide +kernel) (by decide +kernel) (by decide +kernel) (fun _ _ _ h => absurd h.1 (by simp)) (yieldsIf_load_mid (by rfl) 60 (.tmp 5) rfl tb 0 rfl [.int .i64 n, .int .i64 s] _ l2 Try.underlying60 rfl info60) hS ?_
  simp only [Act.put, List.setIfInBounds_toArray, List.set_cons_zero, List.set_cons_succ]
  refine wpAnyH_ready (rs := [6]) (by decide +kernel) (by simp) ?_
  refine AllReadyH.cons (o := { dst := none, op := Op.mapUpdate 51 (Operand.tmp 45) (Operand.tmp 46) (Operand.tmp 47), type := 0, pos := "profile.go:68", after := #[{ on := 3, ground := Ground.data }, { on := 4, ground := Ground.data }, { on := 5, ground := Ground.data }, { on := 0, ground := Ground.phase }, { on := 1, ground := Ground.phase }, { on := 2, ground := Ground.phase }, { on := 3, ground := Ground.phase }, { on := 4, ground := Ground.phase }, { on := 5, ground := Ground.phase }], guard := none }) rfl (fun K hK => ?_) AllReadyH.nil
  rw [if_pos (by rfl)]
  obtain ⟨Y2, r2, cm2, f2, z2⟩ := hcm.store hL hk n s
  refine wp_update 51 (.tmp 45) (.tmp 46) (.tmp 47) rfl rfl rfl rfl r2 ?_
  have hS2 : Fr [mb] X Y2 := hS.trans f2
  refine hK.out _ _ hS2 (fun _ => ?_)
  clear hK K
  try simp only [Act.put, List.setIfInBounds_toArray, List.set_cons_zero, List.set_cons_succ]
  refine wpAnyH_done (by decide +kernel) ?_ _
  exact ⟨rfl, h _ hS2 cm2⟩
end Go.Proofs.Ytjeddgjndpdhoaa
