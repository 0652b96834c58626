/-
  A key is met in two books: the region of ProfileBans that draws its order; conditions: the books lie as told.
-/
import Derived.Test.YtjeddgjndpdhoaaPrV
namespace Go.Proofs.Ytjeddgjndpdhoaa
open Go.RowKit
set_option linter.unusedVariables false
set_option linter.unusedSimpArgs false
set_option maxRecDepth 100000 in
set_option maxHeartbeats 4000000 in
theorem reg8 {X : World} {a ma ca b mb cb xb : Nat} {k : Ky} {S T : Bk} (hA : BA X a ma ca S) (hB : BA X b mb cb T) (hok : Ok S) (he : S.ent ≤ 1000000000) (hok2 : Ok T) (he2 : T.ent ≤ 1000000000) (hk : kw k) (l1 : ∀ w', Fr [a, ma, b, mb] X w' → w'.rangeAt xb 1 (kc k).toList)
    (d1 : a ≠ b) (d2 : a ≠ mb) (d3 : a ≠ cb) (d4 : ma ≠ b) (d5 : ma ≠ mb) (d6 : ma ≠ cb) (d7 : ca ≠ b) (d8 : ca ≠ mb)
    {Q : Exit → Act → World → Prop} {u0 u1 u2 u3 u4 u5 u6 u9 u11 u12 u13 u14 u15 u16 u17 u18 u19 u20 u21 u22 u23 u24 u25 u26 u27 u28 u29 u30 u31 u32 u33 u34 u35 u36 u37 u38 u39 u40 u41 u42 u43 u44 u45 u46 u47 u48 u49 u50 u51 u52 u53 u54 u55 u56 u57 u58 u59 u60 u61 u62 u63 u64 u65 u66 u67 : Value}
    (h : ∀ X2, Fr [a, ma, b, mb] X X2 → BA X2 a ma ca (hitB S k).1 → BA X2 b mb cb (hitB T k).1 → Q .normal { tmps := #[u0, u1, u2, u3, u4, u5, u6, .pointer (some ⟨a, 0, none⟩), .pointer (some ⟨b, 0, none⟩), u9, .pointer (some ⟨xb, 0, none⟩), u11, u12, u13, u14, u15, u16, u17, u18, u19, u20, u21, u22, u23, u24, u25, u26, u27, u28, u29, u30, u31, u32, u33, u34, u35, u36, u37, u38, u39, u40, u41, u42, u43, u44, u45, u46, u47, .pointer (some ⟨a, 0, none⟩), .pointer (some ⟨xb, 1, none⟩), .agg (kc k), .bool (hitB S k).2, .pointer (some ⟨b, 0, none⟩), .pointer (some ⟨xb, 1, none⟩), .agg (kc k), .bool (hitB T k).2, .bool ((hitB S k).2 != (hitB T k).2), u57, u58, u59, u60, u61, u62, u63, u64, u65, u66, u67], defers := [] } X2) :
    (Code.region 15 #[{ dst := some 48, op := Op.move (Operand.tmp 7), type := 33, pos := "law.go:161", after := #[], guard := none }, { dst := some 49, op := Op.fieldAddr 38 (Operand.tmp 10) 1, type := 0, pos := "law.go:161", after := #[], guard := none }, { dst := some 50, op := Op.load 28 (Operand.tmp 49), type := 28, pos := "law.go:161", after := #[{ on := 1, ground := Ground.data }], guard := none }, { dst := some 51, op := Op.call { callee := Callee.value (Operand.func 16), args := #[Operand.tmp 48, Operand.tmp 50], argTypes := #[33, 28] }, type := 4, pos := "law.go:161", after := #[{ on := 0, ground := Ground.data }, { on := 2, ground := Ground.data }], guard := none }, { dst := some 52, op := Op.move (Operand.tmp 8), type := 33, pos := "law.go:161", after := #[], guard := none }, { dst := some 53, op := Op.fieldAddr 38 (Operand.tmp 10) 1, type := 0, pos := "law.go:161", after := #[], guard := none }, { dst := some 54, op := Op.load 28 (Operand.tmp 53), type := 28, pos := "law.go:161", after := #[{ on := 5, ground := Ground.data }], guard := none }, { dst := some 55, op := Op.call { callee := Callee.value (Operand.func 16), args := #[Operand.tmp 52, Operand.tmp 54], argTypes := #[33, 28] }, type := 4, pos := "law.go:161", after := #[{ on := 4, ground := Ground.data }, { on := 6, ground := Ground.data }, { on := 3, ground := Ground.chain }], guard := none }, { dst := some 56, op := Op.binOp BinOp.neq 4 (Operand.tmp 51) (Operand.tmp 55) 4, type := 4, pos := "law.go:161", after := #[{ on := 3, ground := Ground.data }, { on := 7, ground := Ground.data }], guard := none }] true).wp Try.prog Q { tmps := #[u0, u1, u2, u3, u4, u5, u6, .pointer (some ⟨a, 0, none⟩), .pointer (some ⟨b, 0, none⟩), u9, .pointer (some ⟨xb, 0, none⟩), u11, u12, u13, u14, u15, u16, u17, u18, u19, u20, u21, u22, u23, u24, u25, u26, u27, u28, u29, u30, u31, u32, u33, u34, u35, u36, u37, u38, u39, u40, u41, u42, u43, u44, u45, u46, u47, u48, u49, u50, u51, u52, u53, u54, u55, u56, u57, u58, u59, u60, u61, u62, u63, u64, u65, u66, u67], defers := [] } X := by
  refine wp_mono (Q := Plain (fun a w => Q .normal a w)) ?_ (fun e a w h => by obtain ⟨rfl, h2⟩ := h; exact h2)
  refine wp_region_held (S := fun w' => Fr [a, ma, b, mb] X w') (by kernel_rfl) ?_
  change wpAnyH _ _ _ _ _ _ _ _ X.drew
  have hS : Fr [a, ma, b, mb] X X.drew := Fr.drew (Fr.refl _ X)
  have hA : BA X.drew a ma ca S := hA.drew
  have hB : BA X.drew b mb cb T := hB.drew
  generalize X.drew = Y at *
  refine wpAnyH_take (i := 0) (oi := { dst := some 48, op := Op.move (Operand.tmp 7), type := 33, pos := "law.go:161", after := #[], guard := none }) (v := .pointer (some ⟨a, 0, none⟩)) rfl (by decide +kernel) (by decide +kernel) (by decide +kernel) (fun _ _ _ h => absurd h.1 (by simp)) (Or.inl ⟨by rfl, fun wq hSq => by first | rfl | go_simp⟩) hS ?_
  simp only [Act.put, List.setIfInBounds_toArray, List.set_cons_zero, List.set_cons_succ]
  refine wpAnyH_take (i := 1) (oi := { dst := some 49, op := Op.fieldAddr 38 (Operand.tmp 10) 1, type := 0, pos := "law.go:161", after := #[], guard := none }) (v := .pointer (some ⟨xb, 1, none⟩)) rfl (by decide +kernel) (by decide +kernel) (by decide +kernel) (fun _ _ _ h => absurd h.1 (by simp)) (Or.inl ⟨by rfl, fun wq hSq => by first | rfl | go_simp⟩) hS ?_
  simp only [Act.put, List.setIfInBounds_toArray, List.set_cons_zero, List.set_cons_succ]
  refine wpAnyH_take (i := 2) (oi := { dst := some 50, op := Op.load 28 (Operand.tmp 49), type := 28, pos := "law.go:161", after := #[{ on := 1, ground := Ground.data }], guard := none }) (v := .agg (kc k)) rfl (by decide +kernel) (by decide +kernel) (by decide +kernel) (fun _ _ _ h => absurd h.1 (by simp)) (yieldsIf28 (yieldsIf_load_mid (by rfl) 28 (.tmp 49) rfl xb 1 rfl (kc k).toList _ l1 Try.underlying28 rfl (by rw [info28]; simp [kc_size]))) hS ?_
  simp only [Act.put, List.setIfInBounds_toArray, List.set_cons_zero, List.set_cons_succ]
  refine wpAnyH_take (i := 4) (oi := { dst := some 52, op := Op.move (Operand.tmp 8), type := 33, pos := "law.go:161", after := #[], guard := none }) (v := .pointer (some ⟨b, 0, none⟩)) rfl (by decide +kernel) (by decide +kernel) (by decide +kernel) (fun _ _ _ h => absurd h.1 (by simp)) (Or.inl ⟨by rfl, fun wq hSq => by first | rfl | go_simp⟩) hS ?_
  simp only [Act.put, List.setIfInBounds_toArray, List.set_cons_zero, List.set_cons_succ]
  refine wpAnyH_take (i := 5) (oi := { dst := some 53, op := Op.fieldAddr 38 (Operand.tmp 10) 1, type := 0, pos := "law.go:161", after := #[], guard := none }) (v := .pointer (some ⟨xb, 1, none⟩)) rfl (by decide +kernel) (by decide +kernel) (by decide +kernel) (fun _ _ _ h => absurd h.1 (by simp)) (Or.inl ⟨by rfl, fun wq hSq => by first | rfl | go_simp⟩) hS ?_
  simp only [Act.put, List.setIfInBounds_toArray, List.set_cons_zero, List.set_cons_succ]
  refine wpAnyH_take (i := 6) (oi := { dst := some 54, op := Op.load 28 (Operand.tmp 53), type := 28, pos := "law.go:161", after := #[{ on := 5, ground := Ground.data }], guard := none }) (v := .agg (kc k)) rfl (by decide +kernel) (by decide +kernel) (by decide +kernel) (fun _ _ _ h => absurd h.1 (by simp)) (yieldsIf28 (yieldsIf_load_mid (by rfl) 28 (.tmp 53) rfl xb 1 rfl (kc k).toList _ l1 Try.underlying28 rfl (by rw [info28]; simp [kc_size]))) hS ?_
  simp only [Act.put, List.setIfInBounds_toArray, List.set_cons_zero, List.set_cons_succ]
  refine wpAnyH_ready (rs := [3]) (by decide +kernel) (by simp) ?_
  refine AllReadyH.cons (o := { dst := some 51, op := Op.call { callee := Callee.value (Operand.func 16), args := #[Operand.tmp 48, Operand.tmp 50], argTypes := #[33, 28] }, type := 4, pos := "law.go:161", after := #[{ on := 0, ground := Ground.data }, { on := 2, ground := Ground.data }], guard := none }) rfl (fun K hK => ?_) AllReadyH.nil
  go_simp
  refine (hit_any hA hok he hk).mono ?_
  rintro e Y1 ⟨rfl, f1, hA⟩
  have hB := hB.fr f1 (by simp; omega) (by simp; omega) (by simp; omega)
  have hS := hS.trans (f1.sub (T := [a, ma, b, mb]) (by simp))
  refine hK.out _ _ hS (fun _ => ?_)
  clear hK K
  try simp only [Act.put, List.setIfInBounds_toArray, List.set_cons_zero, List.set_cons_succ]
  refine wpAnyH_ready (rs := [7]) (by decide +kernel) (by simp) ?_
  refine AllReadyH.cons (o := { dst := some 55, op := Op.call { callee := Callee.value (Operand.func 16), args := #[Operand.tmp 52, Operand.tmp 54], argTypes := #[33, 28] }, type := 4, pos := "law.go:161", after := #[{ on := 4, ground := Ground.data }, { on := 6, ground := Ground.data }, { on := 3, ground := Ground.chain }], guard := none }) rfl (fun K hK => ?_) AllReadyH.nil
  go_simp
  refine (hit_any hB hok2 he2 hk).mono ?_
  rintro e Y2 ⟨rfl, f2, hB⟩
  have hA := hA.fr f2 (by simp; omega) (by simp; omega) (by simp; omega)
  have hS := hS.trans (f2.sub (T := [a, ma, b, mb]) (by simp))
  refine hK.out _ _ hS (fun _ => ?_)
  clear hK K
  try simp only [Act.put, List.setIfInBounds_toArray, List.set_cons_zero, List.set_cons_succ]
  refine wpAnyH_take (i := 8) (oi := { dst := some 56, op := Op.binOp BinOp.neq 4 (Operand.tmp 51) (Operand.tmp 55) 4, type := 4, pos := "law.go:161", after := #[{ on := 3, ground := Ground.data }, { on := 7, ground := Ground.data }], guard := none }) (v := .bool ((hitB S k).2 != (hitB T k).2)) rfl (by decide +kernel) (by decide +kernel) (by decide +kernel) (fun _ _ _ h => absurd h.1 (by simp)) (Or.inl ⟨by rfl, fun wq hSq => by first | rfl | go_simp⟩) hS ?_
  simp only [Act.put, List.setIfInBounds_toArray, List.set_cons_zero, List.set_cons_succ]
  refine wpAnyH_done (by decide +kernel) ?_ _
  exact ⟨rfl, h _ hS hA hB⟩
end Go.Proofs.Ytjeddgjndpdhoaa
