/-
  Three Hits in a row: the region of the example that draws its order; conditions: the book lies as told.
-/
import Derived.Test.YtjeddgjndpdhoaaPrQ
namespace Go.Proofs.Ytjeddgjndpdhoaa
open Go.RowKit
set_option linter.unusedVariables false
set_option linter.unusedSimpArgs false
set_option maxRecDepth 100000 in
set_option maxHeartbeats 4000000 in
theorem reg9 {X : World} {b mb bb kb : Nat} {k : Ky} {S : Bk} (hB : BA X b mb bb S) (hok : Ok S) (he0 : S.ent ≤ 1000) (hk : kw k) (l1 : ∀ w', Fr [b, mb] X w' → w'.rangeAt kb 0 (kc k).toList)
    {Q : Exit → Act → World → Prop} {u0 u3 u4 u5 u6 u7 u8 u9 u10 u11 u12 u13 u14 u15 u16 u17 u18 u19 u20 u21 u22 u23 u24 u25 u26 u27 u28 u29 u30 u31 u32 u33 u34 u35 u36 u37 u38 u39 u40 u41 u42 u43 u44 u45 u46 u47 u48 u49 u50 u51 u52 u53 : Value}
    (h : ∀ X2, Fr [b, mb] X X2 → BA X2 b mb bb (hitB (hitB (hitB S k).1 k).1 k).1 → Q .normal { tmps := #[u0, .pointer (some ⟨b, 0, none⟩), .pointer (some ⟨kb, 0, none⟩), u3, .bool (hitB S k).2, .bool (hitB (hitB S k).1 k).2, .bool (hitB (hitB (hitB S k).1 k).1 k).2, u7, u8, u9, u10, u11, u12, u13, u14, u15, u16, u17, u18, u19, u20, u21, u22, u23, u24, .pointer (some ⟨b, 0, none⟩), .agg (kc k), .bool (hitB S k).2, .pointer (some ⟨b, 0, none⟩), .agg (kc k), .bool (hitB (hitB S k).1 k).2, .pointer (some ⟨b, 0, none⟩), .agg (kc k), .bool (hitB (hitB (hitB S k).1 k).1 k).2, u34, u35, u36, u37, u38, u39, u40, u41, u42, u43, u44, u45, u46, u47, u48, u49, u50, u51, u52, u53], defers := [] } X2) :
    (Code.region 5 #[{ dst := some 25, op := Op.move (Operand.tmp 1), type := 33, pos := "law.go:17", after := #[], guard := none }, { dst := some 26, op := Op.load 28 (Operand.tmp 2), type := 28, pos := "law.go:17", after := #[], guard := none }, { dst := some 27, op := Op.call { callee := Callee.value (Operand.func 16), args := #[Operand.tmp 25, Operand.tmp 26], argTypes := #[33, 28] }, type := 4, pos := "law.go:17", after := #[{ on := 0, ground := Ground.data }, { on := 1, ground := Ground.data }], guard := none }, { dst := some 28, op := Op.move (Operand.tmp 1), type := 33, pos := "law.go:17", after := #[], guard := none }, { dst := some 29, op := Op.load 28 (Operand.tmp 2), type := 28, pos := "law.go:17", after := #[], guard := none }, { dst := some 30, op := Op.call { callee := Callee.value (Operand.func 16), args := #[Operand.tmp 28, Operand.tmp 29], argTypes := #[33, 28] }, type := 4, pos := "law.go:17", after := #[{ on := 3, ground := Ground.data }, { on := 4, ground := Ground.data }, { on := 2, ground := Ground.chain }], guard := none }, { dst := some 31, op := Op.move (Operand.tmp 1), type := 33, pos := "law.go:17", after := #[], guard := none }, { dst := some 32, op := Op.load 28 (Operand.tmp 2), type := 28, pos := "law.go:17", after := #[], guard := none }, { dst := some 33, op := Op.call { callee := Callee.value (Operand.func 16), args := #[Operand.tmp 31, Operand.tmp 32], argTypes := #[33, 28] }, type := 4, pos := "law.go:17", after := #[{ on := 6, ground := Ground.data }, { on := 7, ground := Ground.data }, { on := 5, ground := Ground.chain }], guard := none }, { dst := some 4, op := Op.assign (Operand.tmp 27), type := 4, pos := "law.go:17", after := #[{ on := 2, ground := Ground.data }, { on := 8, ground := Ground.chain }, { on := 0, ground := Ground.phase }, { on := 1, ground := Ground.phase }, { on := 2, ground := Ground.phase }, { on := 3, ground := Ground.textOnly Departure.lateStores }, { on := 4, ground := Ground.textOnly Departure.lateStores }, { on := 5, ground := Ground.textOnly Departure.lateStoresUnsure }, { on := 6, ground := Ground.textOnly Departure.lateStores }, { on := 7, ground := Ground.textOnly Departure.lateStores }, { on := 8, ground := Ground.textOnly Departure.lateStoresUnsure }], guard := none }, { dst := some 5, op := Op.assign (Operand.tmp 30), type := 4, pos := "law.go:17", after := #[{ on := 5, ground := Ground.data }, { on := 9, ground := Ground.chain }, { on := 0, ground := Ground.phase }, { on := 1, ground := Ground.phase }, { on := 2, ground := Ground.phase }, { on := 3, ground := Ground.phase }, { on := 4, ground := Ground.phase }, { on := 5, ground := Ground.phase }, { on := 6, ground := Ground.textOnly Departure.lateStores }, { on := 7, ground := Ground.textOnly Departure.lateStores }, { on := 8, ground := Ground.textOnly Departure.lateStoresUnsure }, { on := 9, ground := Ground.phase }], guard := none }, { dst := some 6, op := Op.assign (Operand.tmp 33), type := 4, pos := "law.go:17", after := #[{ on := 8, ground := Ground.data }, { on := 10, ground := Ground.chain }, { on := 0, ground := Ground.phase }, { on := 1, ground := Ground.phase }, { on := 2, ground := Ground.phase }, { on := 3, ground := Ground.phase }, { on := 4, ground := Ground.phase }, { on := 5, ground := Ground.phase }, { on := 6, ground := Ground.phase }, { on := 7, ground := Ground.phase }, { on := 8, ground := Ground.phase }, { on := 9, ground := Ground.phase }, { on := 10, ground := Ground.phase }], guard := none }] true).wp Try.prog Q { tmps := #[u0, .pointer (some ⟨b, 0, none⟩), .pointer (some ⟨kb, 0, none⟩), u3, u4, u5, u6, u7, u8, u9, u10, u11, u12, u13, u14, u15, u16, u17, u18, u19, u20, u21, u22, u23, u24, u25, u26, u27, u28, u29, u30, u31, u32, u33, u34, u35, u36, u37, u38, u39, u40, u41, u42, u43, u44, u45, u46, u47, u48, u49, u50, u51, u52, u53], defers := [] } X := by
  refine wp_mono (Q := Plain (fun a w => Q .normal a w)) ?_ (fun e a w h => by obtain ⟨rfl, h2⟩ := h; exact h2)
  refine wp_region_held (S := fun w' => Fr [b, mb] X w') (by kernel_rfl) ?_
  change wpAnyH _ _ _ _ _ _ _ _ X.drew
  have hS : Fr [b, mb] X X.drew := Fr.drew (Fr.refl _ X)
  have hB : BA X.drew b mb bb S := hB.drew
  have he : S.ent ≤ 1000000000 := by omega
  generalize X.drew = Y at *
  refine wpAnyH_take (i := 0) (oi := { dst := some 25, op := Op.move (Operand.tmp 1), type := 33, pos := "law.go:17", after := #[], guard := none }) (v := .pointer (some ⟨b, 0, none⟩)) rfl (by decide +kernel) (by decide +kernel) (by decide +kernel) (fun _ _ _ h => absurd h.1 (by simp)) (Or.inl ⟨by rfl, fun wq hSq => by first | rfl | go_simp⟩) hS ?_
  simp only [Act.put, List.setIfInBounds_toArray, List.set_cons_zero, List.set_cons_succ]
  refine wpAnyH_take (i := 1) (oi := { dst := some 26, op := Op.load 28 (Operand.tmp 2), type := 28, pos := "law.go:17", after := #[], guard := none }) (v := .agg (kc k)) rfl (by decide +kernel) (by decide +kernel) (by decide +kernel) (fun _ _ _ h => absurd h.1 (by simp)) (yieldsIf28 (yieldsIf_load_mid (by rfl) 28 (.tmp 2) rfl kb 0 rfl (kc k).toList _ l1 Try.underlying28 rfl (by rw [info28]; simp [kc_size]))) hS ?_
  simp only [Act.put, List.setIfInBounds_toArray, List.set_cons_zero, List.set_cons_succ]
  refine wpAnyH_take (i := 3) (oi := { dst := some 28, op := Op.move (Operand.tmp 1), type := 33, pos := "law.go:17", after := #[], guard := none }) (v := .pointer (some ⟨b, 0, none⟩)) rfl (by decide +kernel) (by decide +kernel) (by decide +kernel) (fun _ _ _ h => absurd h.1 (by simp)) (Or.inl ⟨by rfl, fun wq hSq => by first | rfl | go_simp⟩) hS ?_
  simp only [Act.put, List.setIfInBounds_toArray, List.set_cons_zero, List.set_cons_succ]
  refine wpAnyH_take (i := 4) (oi := { dst := some 29, op := Op.load 28 (Operand.tmp 2), type := 28, pos := "law.go:17", after := #[], guard := none }) (v := .agg (kc k)) rfl (by decide +kernel) (by decide +kernel) (by decide +kernel) (fun _ _ _ h => absurd h.1 (by simp)) (yieldsIf28 (yieldsIf_load_mid (by rfl) 28 (.tmp 2) rfl kb 0 rfl (kc k).toList _ l1 Try.underlying28 rfl (by rw [info28]; simp [kc_size]))) hS ?_
  simp only [Act.put, List.setIfInBounds_toArray, List.set_cons_zero, List.set_cons_succ]
  refine wpAnyH_take (i := 6) (oi := { dst := some 31, op := Op.move (Operand.tmp 1), type := 33, pos := "law.go:17", after := #[], guard := none }) (v := .pointer (some ⟨b, 0, none⟩)) rfl (by decide +kernel) (by decide +kernel) (by decide +kernel) (fun _ _ _ h => absurd h.1 (by simp)) (Or.inl ⟨by rfl, fun wq hSq => by first | rfl | go_simp⟩) hS ?_
  simp only [Act.put, List.setIfInBounds_toArray, List.set_cons_zero, List.set_cons_succ]
  refine wpAnyH_take (i := 7) (oi := { dst := some 32, op := Op.load 28 (Operand.tmp 2), type := 28, pos := "law.go:17", after := #[], guard := none }) (v := .agg (kc k)) rfl (by decide +kernel) (by decide +kernel) (by decide +kernel) (fun _ _ _ h => absurd h.1 (by simp)) (yieldsIf28 (yieldsIf_load_mid (by rfl) 28 (.tmp 2) rfl kb 0 rfl (kc k).toList _ l1 Try.underlying28 rfl (by rw [info28]; simp [kc_size]))) hS ?_
  simp only [Act.put, List.setIfInBounds_toArray, List.set_cons_zero, List.set_cons_succ]
  refine wpAnyH_ready (rs := [2]) (by decide +kernel) (by simp) ?_
  refine AllReadyH.cons (o := { dst := some 27, op := Op.call { callee := Callee.value (Operand.func 16), args := #[Operand.tmp 25, Operand.tmp 26], argTypes := #[33, 28] }, type := 4, pos := "law.go:17", after := #[{ on := 0, ground := Ground.data }, { on := 1, ground := Ground.data }], guard := none }) rfl (fun K hK => ?_) AllReadyH.nil
  go_simp
  refine (hit_any hB hok he hk).mono ?_
  rintro e Y0 ⟨rfl, f0, hB⟩
  have he : ((hitB S k).1).ent ≤ 1000000000 := by have := hit_ent (S) k; first | omega | (have := hit_ent S k; have := hit_ent (hitB S k).1 k; omega)
  have hok := ok_hit hok hk
  have hS := hS.trans f0
  refine hK.out _ _ hS (fun _ => ?_)
  clear hK K
  try simp only [Act.put, List.setIfInBounds_toArray, List.set_cons_zero, List.set_cons_succ]
  refine wpAnyH_ready (rs := [5]) (by decide +kernel) (by simp) ?_
  refine AllReadyH.cons (o := { dst := some 30, op := Op.call { callee := Callee.value (Operand.func 16), args := #[Operand.tmp 28, Operand.tmp 29], argTypes := #[33, 28] }, type := 4, pos := "law.go:17", after := #[{ on := 3, ground := Ground.data }, { on := 4, ground := Ground.data }, { on := 2, ground := Ground.chain }], guard := none }) rfl (fun K hK => ?_) AllReadyH.nil
  go_simp
  refine (hit_any hB hok he hk).mono ?_
  rintro e Y1 ⟨rfl, f1, hB⟩
  have he : ((hitB (hitB S k).1 k).1).ent ≤ 1000000000 := by have := hit_ent ((hitB S k).1) k; first | omega | (have := hit_ent S k; have := hit_ent (hitB S k).1 k; omega)
  have hok := ok_hit hok hk
  have hS := hS.trans f1
  refine hK.out _ _ hS (fun _ => ?_)
  clear hK K
  try simp only [Act.put, List.setIfInBounds_toArray, List.set_cons_zero, List.set_cons_succ]
  refine wpAnyH_ready (rs := [8]) (by decide +kernel) (by simp) ?_
  refine AllReadyH.cons (o := { dst := some 33, op := Op.call { callee := Callee.value (Operand.func 16), args := #[Operand.tmp 31, Operand.tmp 32], argTypes := #[33, 28] }, type := 4, pos := "law.go:17", after := #[{ on := 6, ground := Ground.data }, { on := 7, ground := Ground.data }, { on := 5, ground := Ground.chain }], guard := none }) rfl (fun K hK => ?_) AllReadyH.nil
  go_simp
  refine (hit_any hB hok he hk).mono ?_
  rintro e Y2 ⟨rfl, f2, hB⟩
  have he : ((hitB (hitB (hitB S k).1 k).1 k).1).ent ≤ 1000000000 := by have := hit_ent ((hitB (hitB S k).1 k).1) k; first | omega | (have := hit_ent S k; have := hit_ent (hitB S k).1 k; omega)
  have hok := ok_hit hok hk
  have hS := hS.trans f2
  refine hK.out _ _ hS (fun _ => ?_)
  clear hK K
  try simp only [Act.put, List.setIfInBounds_toArray, List.set_cons_zero, List.set_cons_succ]
  refine wpAnyH_take (i := 9) (oi := { dst := some 4, op := Op.assign (Operand.tmp 27), type := 4, pos := "law.go:17", after := #[{ on := 2, ground := Ground.data }, { on := 8, ground := Ground.chain }, { on := 0, ground := Ground.phase }, { on := 1, ground := Ground.phase }, { on := 2, ground := Ground.phase }, { on := 3, ground := Ground.textOnly Departure.lateStores }, { on := 4, ground := Ground.textOnly Departure.lateStores }, { on := 5, ground := Ground.textOnly Departure.lateStoresUnsure }, { on := 6, ground := Ground.textOnly Departure.lateStores }, { on := 7, ground := Ground.textOnly Departure.lateStores }, { on := 8, ground := Ground.textOnly Departure.lateStoresUnsure }], guard := none }) (v := .bool (hitB S k).2) rfl (by decide +kernel) (by decide +kernel) (by decide +kernel) (fun _ _ _ h => absurd h.1 (by simp)) (Or.inl ⟨by rfl, fun wq hSq => by first | rfl | go_simp⟩) hS ?_
  simp only [Act.put, List.setIfInBounds_toArray, List.set_cons_zero, List.set_cons_succ]
  refine wpAnyH_take (i := 10) (oi := { dst := some 5, op := Op.assign (Operand.tmp 30), type := 4, pos := "law.go:17", after := #[{ on := 5, ground := Ground.data }, { on := 9, ground := Ground.chain }, { on := 0, ground := Ground.phase }, { on := 1, ground := Ground.phase }, { on := 2, ground := Ground.phase }, { on := 3, ground := Ground.phase }, { on := 4, ground := Ground.phase }, { on := 5, ground := Ground.phase }, { on := 6, ground := Ground.textOnly Departure.lateStores }, { on := 7, ground := Ground.textOnly Departure.lateStores }, { on := 8, ground := Ground.textOnly Departure.lateStoresUnsure }, { on := 9, ground := Ground.phase }], guard := none }) (v := .bool (hitB (hitB S k).1 k).2) rfl (by decide +kernel) (by decide +kernel) (by decide +kernel) (fun _ _ _ h => absurd h.1 (by simp)) (Or.inl ⟨by rfl, fun wq hSq => by first | rfl | go_simp⟩) hS ?_
  simp only [Act.put, List.setIfInBounds_toArray, List.set_cons_zero, List.set_cons_succ]
  refine wpAnyH_take (i := 11) (oi := { dst := some 6, op := Op.assign (Operand.tmp 33), type := 4, pos := "law.go:17", after := #[{ on := 8, ground := Ground.data }, { on := 10, ground := Ground.chain }, { on := 0, ground := Ground.phase }, { on := 1, ground := Ground.phase }, { on := 2, ground := Ground.phase }, { on := 3, ground := Ground.phase }, { on := 4, ground := Ground.phase }, { on := 5, ground := Ground.phase }, { on := 6, ground := Ground.phase }, { on := 7, ground := Ground.phase }, { on := 8, ground := Ground.phase }, { on := 9, ground := Ground.phase }, { on := 10, ground := Ground.phase }], guard := none }) (v := .bool (hitB (hitB (hitB S k).1 k).1 k).2) rfl (by decide +kernel) (by decide +kernel) (by decide +kernel) (fun _ _ _ h => absurd h.1 (by simp)) (Or.inl ⟨by rfl, fun wq hSq => by first | rfl | go_simp⟩) hS ?_
  simp only [Act.put, List.setIfInBounds_toArray, List.set_cons_zero, List.set_cons_succ]
  refine wpAnyH_done (by decide +kernel) ?_ _
  exact ⟨rfl, h _ hS hB⟩
end Go.Proofs.Ytjeddgjndpdhoaa
