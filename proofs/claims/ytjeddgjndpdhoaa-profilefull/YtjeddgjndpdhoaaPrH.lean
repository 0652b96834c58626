/-
  The least of what is counted, by the program: the region that keeps it; conditions: what is kept lies as told.
-/
import Derived.Test.YtjeddgjndpdhoaaPrG
import Derived.OrdersHeld
import Derived.Deep.WholeRow
namespace Go.Proofs.Ytjeddgjndpdhoaa
open Go.RowKit
set_option linter.unusedVariables false
set_option linter.unusedSimpArgs false
theorem row_new {w : World} {b : Nat} {A C : Array Value} {t : TypeId} {z : Nat × Nat} (hb : w.heap[b]? = some (.cells A t z)) : (w.setRow b C).heap[b]? = some (.cells C t z) := by
  simp [World.setRow, Array.getElem?_modify, hb]
theorem row_oth {w : World} {b k : Nat} {C : Array Value} (hk : k ≠ b) : (w.setRow b C).heap[k]? = w.heap[k]? := by
  simp [World.setRow, Array.getElem?_modify, Ne.symm hk]
theorem Fr.setRow {S : List Nat} {a b : World} (h : Fr S a b) {k : Nat} (hk : k ∈ S ∨ a.heap.size ≤ k) (C : Array Value) : Fr S a (b.setRow k C) :=
  ⟨h.os, h.tape, h.output, by simpa [World.setRow] using h.size, fun i hi hS => by
    rw [row_oth]
    · exact h.block i hi hS
    · rintro rfl
      rcases hk with hk | hk
      · exact hS hk
      · omega⟩
theorem info28 : (Try.prog.info? 28).map (·.size) = some 10 := by kernel_rfl
theorem info60 : (Try.prog.info? 60).map (·.size) = some 2 := by kernel_rfl
theorem yieldsIf28 {ops : Array Oper} {S : World → Prop} {op : Oper} {a : Act} {k : Ky} (h : YieldsIf Try.prog ops S op (.agg (kc k).toList.toArray) a) : YieldsIf Try.prog ops S op (.agg (kc k)) a := by simpa only [Array.toArray_toList] using h
/-- A region's end that is no panic. -/
def Plain (N : Act → World → Prop) : Exit → Act → World → Prop := fun e a w => e = .normal ∧ N a w

set_option maxRecDepth 100000 in
set_option maxHeartbeats 4000000 in
theorem reg27 {X : World} {kb tb k8 v9 : Nat} {k : Ky} {n s : Int} (l1 : ∀ w', Fr [kb, tb] X w' → w'.rangeAt k8 0 (kc k).toList) (l2 : ∀ w', Fr [kb, tb] X w' → w'.rangeAt v9 0 [.int .i64 n, .int .i64 s])
    {c0 c1 : Array Value} (bK : X.heap[kb]? = some (.cells c0 28 (0, 0))) (hc0 : c0.size = 10) (bT : X.heap[tb]? = some (.cells c1 60 (0, 0))) (hc1 : c1.size = 2) (hne : kb ≠ tb) {Q : Exit → Act → World → Prop} {u0 u1 u2 u3 u4 u7 u10 u11 u12 u13 u14 u15 u16 u17 u18 u19 u20 u21 u22 u23 u24 u25 u26 u27 : Value}
    (h : ∀ X2, Fr [kb, tb] X X2 → X2.heap[kb]? = some (.cells (kc k) 28 (0, 0)) → X2.heap[tb]? = some (.cells #[.int .i64 n, .int .i64 s] 60 (0, 0)) → Q .normal { tmps := #[u0, u1, u2, u3, u4, .pointer (some ⟨kb, 0, none⟩), .pointer (some ⟨tb, 0, none⟩), .bool false, .pointer (some ⟨k8, 0, none⟩), .pointer (some ⟨v9, 0, none⟩), u10, u11, u12, u13, u14, u15, u16, u17, u18, u19, u20, u21, u22, u23, u24, .agg (kc k), .agg #[.int .i64 n, .int .i64 s], u27], defers := [] } X2) :
    (Code.region 8 #[{ dst := some 25, op := Op.load 28 (Operand.tmp 8), type := 28, pos := "profile.go:93", after := #[], guard := none }, { dst := some 26, op := Op.load 60 (Operand.tmp 9), type := 60, pos := "profile.go:93", after := #[{ on := 2, ground := Ground.gcOnly Departure.lateStores }], guard := none }, { dst := none, op := Op.store 28 (Operand.tmp 5) (Operand.tmp 25), type := 0, pos := "profile.go:93", after := #[{ on := 0, ground := Ground.data }, { on := 0, ground := Ground.phase }, { on := 1, ground := Ground.textOnly Departure.lateStores }], guard := none }, { dst := none, op := Op.store 60 (Operand.tmp 6) (Operand.tmp 26), type := 0, pos := "profile.go:93", after := #[{ on := 1, ground := Ground.data }, { on := 2, ground := Ground.chain }, { on := 0, ground := Ground.phase }, { on := 1, ground := Ground.phase }, { on := 2, ground := Ground.phase }], guard := none }, { dst := some 7, op := Op.assign (Operand.const (Value.bool false)), type := 4, pos := "profile.go:93", after := #[{ on := 3, ground := Ground.chain }, { on := 0, ground := Ground.phase }, { on := 1, ground := Ground.phase }, { on := 2, ground := Ground.phase }, { on := 3, ground := Ground.phase }], guard := none }] true).wp Try.prog Q { tmps := #[u0, u1, u2, u3, u4, .pointer (some ⟨kb, 0, none⟩), .pointer (some ⟨tb, 0, none⟩), u7, .pointer (some ⟨k8, 0, none⟩), .pointer (some ⟨v9, 0, none⟩), u10, u11, u12, u13, u14, u15, u16, u17, u18, u19, u20, u21, u22, u23, u24, u25, u26, u27], defers := [] } X := by
  refine wp_mono (Q := Plain (fun a w => Q .normal a w)) ?_ (fun e a w h => by obtain ⟨rfl, h2⟩ := h; exact h2)
  refine wp_region_held (S := fun w' => Fr [kb, tb] X w') (by kernel_rfl) ?_
  change wpAnyH _ _ _ _ _ _ _ _ X.drew
  have hS : Fr [kb, tb] X X.drew := Fr.drew (Fr.refl _ X)
  have bK : X.drew.heap[kb]? = some (.cells c0 28 (0, 0)) := bK
  have bT : X.drew.heap[tb]? = some (.cells c1 60 (0, 0)) := bT
  generalize X.drew = Y at *
  refine wpAnyH_take (i := 0) (oi := { dst := some 25, op := Op.load 28 (Operand.tmp 8), type := 28, pos := "profile.go:93", after := #[], guard := none }) (v := .agg (kc k)) rfl (by decide +kernel) (by decide +kernel) (by decide +kernel) (fun _ _ _ h => absurd h.1 (by simp)) (yieldsIf28 (yieldsIf_load_mid (by rfl) 28 (.tmp 8) rfl k8 0 rfl (kc k).toList _ l1 Try.underlying28 rfl (by rw [info28]; simp [kc_size]))) hS ?_
  simp only [Act.put, List.setIfInBounds_toArray, List.set_cons_zero, List.set_cons_succ]
  refine wpAnyH_take (i := 1) (oi := { dst := some 26, op := Op.load 60 (Operand.tmp 9), type := 60, pos := "profile.go:93", after := #[{ on := 2, ground := Ground.gcOnly Departure.lateStores }], guard := none }) (v := .agg #[.int .i64 n, .int .i64 s]) rfl (by decide +kernel) (by decide +kernel) (by decide +kernel) (fun _ _ _ h => absurd h.1 (by simp)) (yieldsIf_load_mid (by rfl) 60 (.tmp 9) rfl v9 0 rfl [.int .i64 n, .int .i64 s] _ l2 Try.underlying60 rfl info60) hS ?_
  simp only [Act.put, List.setIfInBounds_toArray, List.set_cons_zero, List.set_cons_succ]
  refine wpAnyH_ready (rs := [2]) (by decide +kernel) (by simp) ?_
  refine AllReadyH.cons (o := { dst := none, op := Op.store 28 (Operand.tmp 5) (Operand.tmp 25), type := 0, pos := "profile.go:93", after := #[{ on := 0, ground := Ground.data }, { on := 0, ground := Ground.phase }, { on := 1, ground := Ground.textOnly Departure.lateStores }], guard := none }) rfl (fun K hK => ?_) AllReadyH.nil
  rw [if_pos (by rfl)]
  refine wp_store_row 28 (.tmp 5) (.tmp 25) rfl kb (kc k) rfl rfl 28 _ bK (by rw [info28, kc_size]) (by rw [hc0, kc_size]) (kc_one k) ?_
  have bT := (row_oth (C := kc k) (Ne.symm hne)).trans bT
  have hS := hS.setRow (k := kb) (.inl (by simp)) (kc k)
  have bK := row_new (C := kc k) bK
  refine hK.out _ _ hS (fun _ => ?_)
  clear hK K
  try simp only [Act.put, List.setIfInBounds_toArray, List.set_cons_zero, List.set_cons_succ]
  refine wpAnyH_ready (rs := [3]) (by decide +kernel) (by simp) ?_
  refine AllReadyH.cons (o := { dst := none, op := Op.store 60 (Operand.tmp 6) (Operand.tmp 26), type := 0, pos := "profile.go:93", after := #[{ on := 1, ground := Ground.data }, { on := 2, ground := Ground.chain }, { on := 0, ground := Ground.phase }, { on := 1, ground := Ground.phase }, { on := 2, ground := Ground.phase }], guard := none }) rfl (fun K hK => ?_) AllReadyH.nil
  rw [if_pos (by rfl)]
  refine wp_store_row 60 (.tmp 6) (.tmp 26) rfl tb #[.int .i64 n, .int .i64 s] rfl rfl 60 _ bT (by rw [info60]; rfl) (by rw [hc1]; rfl) (by simp [Value.oneCell']) ?_
  have bK := (row_oth (C := #[.int .i64 n, .int .i64 s]) hne).trans bK
  have hS := hS.setRow (k := tb) (.inl (by simp)) #[.int .i64 n, .int .i64 s]
  have bT := row_new (C := #[.int .i64 n, .int .i64 s]) bT
  refine hK.out _ _ hS (fun _ => ?_)
  clear hK K
  try simp only [Act.put, List.setIfInBounds_toArray, List.set_cons_zero, List.set_cons_succ]
  refine wpAnyH_take (i := 4) (oi := { dst := some 7, op := Op.assign (Operand.const (Value.bool false)), type := 4, pos := "profile.go:93", after := #[{ on := 3, ground := Ground.chain }, { on := 0, ground := Ground.phase }, { on := 1, ground := Ground.phase }, { on := 2, ground := Ground.phase }, { on := 3, ground := Ground.phase }], guard := none }) (v := .bool false) rfl (by decide +kernel) (by decide +kernel) (by decide +kernel) (fun _ _ _ h => absurd h.1 (by simp)) (Or.inl ⟨by rfl, fun wq hSq => by first | rfl | go_simp⟩) hS ?_
  simp only [Act.put, List.setIfInBounds_toArray, List.set_cons_zero, List.set_cons_succ]
  refine wpAnyH_done (by decide +kernel) ?_ _
  exact ⟨rfl, h _ hS bK bT⟩
end Go.Proofs.Ytjeddgjndpdhoaa
