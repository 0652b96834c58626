/-
  Both books are asked, and a key is met in both: the regions of ProfileCounts and ProfileFull that draw their order; conditions: the books lie as told.
-/
import Derived.Test.YtjeddgjndpdhoaaRbG
namespace Go.Proofs.Ytjeddgjndpdhoaa
open Go.RowKit
set_option linter.unusedVariables false
set_option linter.unusedSimpArgs false
set_option maxRecDepth 100000 in
set_option maxHeartbeats 4000000 in
theorem reg4a {X : World} {a ma ca rb xb B : Nat} {k : Ky} {S : Bk} (hA : BA X a ma ca S) (hR : RBk B X rb S) (hB : B ≤ X.heap.size) (hok : Ok S) (he : S.ent ≤ 1000000000) (hO : S.O.length ≤ 100000) (hw : ∀ x ∈ S.O, kw x) (hk : kw k) (l1 : ∀ w', Gr B p64 [a, ma, rb] X w' → w'.rangeAt xb 1 (kc k).toList)
    (d1 : a < B) (d2 : ma < B) (d3 : ca < B) (d4 : rb ≠ a) (d5 : rb ≠ ma) (d6 : rb ≠ ca)
    {Q : Exit → Act → World → Prop} {u0 u1 u2 u3 u4 u7 u9 u10 u11 u12 u13 u14 u15 u16 u17 u18 u19 u20 u21 u22 u23 u24 u25 u26 u27 u28 u29 u30 u31 u32 u33 u34 u35 u36 u37 u38 u39 u40 u41 u42 u43 u44 u45 u46 u47 u48 u49 u50 u51 u52 u53 u54 u55 u56 u57 u58 u59 u60 u61 u62 u63 u64 u65 u66 u67 u68 u69 u70 u71 u72 u73 u74 u75 u76 u77 u78 u79 u80 u81 u82 u83 u84 u85 u86 u87 u88 u89 u90 u91 u92 u93 u94 u95 u96 u97 u98 u99 u100 u101 u102 u103 u104 u105 : Value}
    (h : ∀ n39 n40 n41 n42 n43 n44 n45 n46 X2, Gr B p64 [a, ma, rb] X X2 → BA X2 a ma ca (hitB S k).1 → RBk B X2 rb (hitB S k).1 → Q .normal { tmps := #[u0, u1, u2, u3, u4, .pointer (some ⟨a, 0, none⟩), .pointer (some ⟨rb, 0, none⟩), u7, .pointer (some ⟨xb, 0, none⟩), u9, u10, u11, u12, u13, u14, u15, u16, u17, u18, u19, u20, u21, u22, u23, u24, u25, u26, u27, u28, u29, u30, u31, u32, u33, u34, u35, u36, u37, u38, n39, n40, n41, n42, n43, n44, n45, n46, .bool false, u48, u49, u50, u51, u52, u53, u54, u55, u56, u57, u58, u59, u60, u61, u62, u63, u64, u65, u66, u67, u68, u69, u70, u71, u72, u73, u74, u75, u76, u77, u78, u79, u80, u81, u82, u83, u84, u85, u86, u87, u88, u89, u90, u91, u92, u93, u94, u95, u96, u97, u98, u99, u100, u101, u102, u103, u104, u105], defers := [] } X2) :
    (Code.region 14 #[{ dst := some 39, op := Op.move (Operand.tmp 5), type := 33, pos := "law.go:56", after := #[], guard := none }, { dst := some 40, op := Op.fieldAddr 38 (Operand.tmp 8) 1, type := 0, pos := "law.go:56", after := #[], guard := none }, { dst := some 41, op := Op.load 28 (Operand.tmp 40), type := 28, pos := "law.go:56", after := #[{ on := 1, ground := Ground.data }], guard := none }, { dst := some 42, op := Op.call { callee := Callee.value (Operand.func 16), args := #[Operand.tmp 39, Operand.tmp 41], argTypes := #[33, 28] }, type := 4, pos := "law.go:56", after := #[{ on := 0, ground := Ground.data }, { on := 2, ground := Ground.data }], guard := none }, { dst := some 43, op := Op.move (Operand.tmp 6), type := 35, pos := "law.go:56", after := #[], guard := none }, { dst := some 44, op := Op.fieldAddr 38 (Operand.tmp 8) 1, type := 0, pos := "law.go:56", after := #[], guard := none }, { dst := some 45, op := Op.load 28 (Operand.tmp 44), type := 28, pos := "law.go:56", after := #[{ on := 5, ground := Ground.data }], guard := none }, { dst := some 46, op := Op.call { callee := Callee.value (Operand.func 17), args := #[Operand.tmp 43, Operand.tmp 45], argTypes := #[35, 28] }, type := 4, pos := "law.go:56", after := #[{ on := 4, ground := Ground.data }, { on := 6, ground := Ground.data }, { on := 3, ground := Ground.chain }], guard := none }, { dst := some 47, op := Op.binOp BinOp.neq 4 (Operand.tmp 42) (Operand.tmp 46) 4, type := 4, pos := "law.go:56", after := #[{ on := 3, ground := Ground.data }, { on := 7, ground := Ground.data }], guard := none }] true).wp Try.prog Q { tmps := #[u0, u1, u2, u3, u4, .pointer (some ⟨a, 0, none⟩), .pointer (some ⟨rb, 0, none⟩), u7, .pointer (some ⟨xb, 0, none⟩), u9, u10, u11, u12, u13, u14, u15, u16, u17, u18, u19, u20, u21, u22, u23, u24, u25, u26, u27, u28, u29, u30, u31, u32, u33, u34, u35, u36, u37, u38, u39, u40, u41, u42, u43, u44, u45, u46, u47, u48, u49, u50, u51, u52, u53, u54, u55, u56, u57, u58, u59, u60, u61, u62, u63, u64, u65, u66, u67, u68, u69, u70, u71, u72, u73, u74, u75, u76, u77, u78, u79, u80, u81, u82, u83, u84, u85, u86, u87, u88, u89, u90, u91, u92, u93, u94, u95, u96, u97, u98, u99, u100, u101, u102, u103, u104, u105], defers := [] } X := by
  have hne : ((hitB S k).2 != (hitB S k).2) = false := by simp
  refine wp_mono (Q := Plain (fun a w => Q .normal a w)) ?_ (fun e a w h => by obtain ⟨rfl, h2⟩ := h; exact h2)
  refine wp_region_held (S := fun w' => Gr B p64 [a, ma, rb] X w') (by kernel_rfl) ?_
  change wpAnyH _ _ _ _ _ _ _ _ X.drew
  have F0 : Fr [] X X.drew := Fr.drew (Fr.refl [] X)
  have hA : BA X.drew a ma ca S := hA.drew
  have hR : RBk B X.drew rb S := hR.fr0 F0
  have hS : Gr B p64 [a, ma, rb] X X.drew := Gr.ofFr F0 (by simp)
  generalize X.drew = Y at *
  refine wpAnyH_take (i := 0) (oi := { dst := some 39, op := Op.move (Operand.tmp 5), type := 33, pos := "law.go:56", after := #[], guard := none }) (v := .pointer (some ⟨a, 0, none⟩)) rfl (by decide +kernel) (by decide +kernel) (by decide +kernel) (fun _ _ _ h => absurd h.1 (by simp)) (Or.inl ⟨by rfl, fun wq hSq => by first | rfl | go_simp⟩) hS ?_
  simp only [Act.put, List.setIfInBounds_toArray, List.set_cons_zero, List.set_cons_succ]
  refine wpAnyH_take (i := 1) (oi := { dst := some 40, op := Op.fieldAddr 38 (Operand.tmp 8) 1, type := 0, pos := "law.go:56", after := #[], guard := none }) (v := .pointer (some ⟨xb, 1, none⟩)) rfl (by decide +kernel) (by decide +kernel) (by decide +kernel) (fun _ _ _ h => absurd h.1 (by simp)) (Or.inl ⟨by rfl, fun wq hSq => by first | rfl | go_simp⟩) hS ?_
  simp only [Act.put, List.setIfInBounds_toArray, List.set_cons_zero, List.set_cons_succ]
  refine wpAnyH_take (i := 2) (oi := { dst := some 41, op := Op.load 28 (Operand.tmp 40), type := 28, pos := "law.go:56", after := #[{ on := 1, ground := Ground.data }], guard := none }) (v := .agg (kc k)) rfl (by decide +kernel) (by decide +kernel) (by decide +kernel) (fun _ _ _ h => absurd h.1 (by simp)) (yieldsIf28 (yieldsIf_load_mid (by rfl) 28 (.tmp 40) rfl xb 1 rfl (kc k).toList _ l1 Try.underlying28 rfl (by rw [info28]; simp [kc_size]))) hS ?_
  simp only [Act.put, List.setIfInBounds_toArray, List.set_cons_zero, List.set_cons_succ]
  refine wpAnyH_take (i := 4) (oi := { dst := some 43, op := Op.move (Operand.tmp 6), type := 35, pos := "law.go:56", after := #[], guard := none }) (v := .pointer (some ⟨rb, 0, none⟩)) rfl (by decide +kernel) (by decide +kernel) (by decide +kernel) (fun _ _ _ h => absurd h.1 (by simp)) (Or.inl ⟨by rfl, fun wq hSq => by first | rfl | go_simp⟩) hS ?_
  simp only [Act.put, List.setIfInBounds_toArray, List.set_cons_zero, List.set_cons_succ]
  refine wpAnyH_take (i := 5) (oi := { dst := some 44, op := Op.fieldAddr 38 (Operand.tmp 8) 1, type := 0, pos := "law.go:56", after := #[], guard := none }) (v := .pointer (some ⟨xb, 1, none⟩)) rfl (by decide +kernel) (by decide +kernel) (by decide +kernel) (fun _ _ _ h => absurd h.1 (by simp)) (Or.inl ⟨by rfl, fun wq hSq => by first | rfl | go_simp⟩) hS ?_
  simp only [Act.put, List.setIfInBounds_toArray, List.set_cons_zero, List.set_cons_succ]
  refine wpAnyH_take (i := 6) (oi := { dst := some 45, op := Op.load 28 (Operand.tmp 44), type := 28, pos := "law.go:56", after := #[{ on := 5, ground := Ground.data }], guard := none }) (v := .agg (kc k)) rfl (by decide +kernel) (by decide +kernel) (by decide +kernel) (fun _ _ _ h => absurd h.1 (by simp)) (yieldsIf28 (yieldsIf_load_mid (by rfl) 28 (.tmp 44) rfl xb 1 rfl (kc k).toList _ l1 Try.underlying28 rfl (by rw [info28]; simp [kc_size]))) hS ?_
  simp only [Act.put, List.setIfInBounds_toArray, List.set_cons_zero, List.set_cons_succ]
  refine wpAnyH_ready (rs := [3]) (by decide +kernel) (by simp) ?_
  refine AllReadyH.cons (o := { dst := some 42, op := Op.call { callee := Callee.value (Operand.func 16), args := #[Operand.tmp 39, Operand.tmp 41], argTypes := #[33, 28] }, type := 4, pos := "law.go:56", after := #[{ on := 0, ground := Ground.data }, { on := 2, ground := Ground.data }], guard := none }) rfl (fun K hK => ?_) AllReadyH.nil
  go_simp
  refine (hit_any hA hok he hk).mono ?_
  rintro e Y1 ⟨rfl, f1, hA⟩
  have hR := hR.fr f1 (by simp; omega) (fun q hq => .inl (by simp at hq; omega))
  have hS := hS.trans (Gr.ofFr f1 (fun q hq => .inl (by simp at hq ⊢; omega)))
  refine hK.out _ _ hS (fun _ => ?_)
  clear hK K
  try simp only [Act.put, List.setIfInBounds_toArray, List.set_cons_zero, List.set_cons_succ]
  refine wpAnyH_ready (rs := [7]) (by decide +kernel) (by simp) ?_
  refine AllReadyH.cons (o := { dst := some 46, op := Op.call { callee := Callee.value (Operand.func 17), args := #[Operand.tmp 43, Operand.tmp 45], argTypes := #[35, 28] }, type := 4, pos := "law.go:56", after := #[{ on := 4, ground := Ground.data }, { on := 6, ground := Ground.data }, { on := 3, ground := Ground.chain }], guard := none }) rfl (fun K hK => ?_) AllReadyH.nil
  go_simp
  refine (rhit_any hR (Nat.le_trans hB hS.size) hok hO hw hk).mono ?_
  rintro e Y2 ⟨rfl, f2, hR⟩
  have hA := hA.gr f2 rfl (by simp; omega) (by simp; omega) (by simp; omega)
  have hS := hS.trans (f2.sub (T' := [a, ma, rb]) (by simp))
  refine hK.out _ _ hS (fun _ => ?_)
  clear hK K
  try simp only [Act.put, List.setIfInBounds_toArray, List.set_cons_zero, List.set_cons_succ]
  refine wpAnyH_take (i := 8) (oi := { dst := some 47, op := Op.binOp BinOp.neq 4 (Operand.tmp 42) (Operand.tmp 46) 4, type := 4, pos := "law.go:56", after := #[{ on := 3, ground := Ground.data }, { on := 7, ground := Ground.data }], guard := none }) (v := .bool false) rfl (by decide +kernel) (by decide +kernel) (by decide +kernel) (fun _ _ _ h => absurd h.1 (by simp)) (Or.inl ⟨by rfl, fun wq hSq => by (have q := hne; go_simp)⟩) hS ?_
  simp only [Act.put, List.setIfInBounds_toArray, List.set_cons_zero, List.set_cons_succ]
  refine wpAnyH_done (by decide +kernel) ?_ _
  exact ⟨rfl, h _ _ _ _ _ _ _ _ _ hS hA hR⟩
set_option maxRecDepth 100000 in
set_option maxHeartbeats 4000000 in
theorem reg5a {X : World} {a ma ca rb xb B : Nat} {k : Ky} {S : Bk} (hA : BA X a ma ca S) (hR : RBk B X rb S) (hB : B ≤ X.heap.size) (hok : Ok S) (he : S.ent ≤ 1000000000) (hO : S.O.length ≤ 100000) (hw : ∀ x ∈ S.O, kw x) (hk : kw k) (l1 : ∀ w', Gr B p64 [a, ma, rb] X w' → w'.rangeAt xb 0 (kc k).toList)
    (d1 : a < B) (d2 : ma < B) (d3 : ca < B) (d4 : rb ≠ a) (d5 : rb ≠ ma) (d6 : rb ≠ ca)
    {Q : Exit → Act → World → Prop} {u0 u1 u2 u3 u4 u7 u8 u9 u10 u11 u13 u14 u15 u16 u17 u18 u19 u20 u21 u22 u23 u24 u25 u26 u27 u28 u29 u30 u31 u32 u33 u34 u35 u36 u37 u38 u39 u40 u41 u42 u43 u44 u45 u46 u47 u48 u49 u50 u51 u52 u53 u54 u55 u56 u57 u58 u59 u60 u61 u62 u63 u64 u65 u66 u67 u68 u69 u70 u71 u72 u73 u74 u75 u76 u77 u78 u79 u80 u81 u82 u83 u84 u85 u86 u87 u88 u89 u90 u91 u92 u93 u94 : Value}
    (h : ∀ n63 n64 n65 n66 n67 n68 X2, Gr B p64 [a, ma, rb] X X2 → BA X2 a ma ca (hitB S k).1 → RBk B X2 rb (hitB S k).1 → Q .normal { tmps := #[u0, u1, u2, u3, u4, .pointer (some ⟨a, 0, none⟩), .pointer (some ⟨rb, 0, none⟩), u7, u8, u9, u10, u11, .pointer (some ⟨xb, 0, none⟩), u13, u14, u15, u16, u17, u18, u19, u20, u21, u22, u23, u24, u25, u26, u27, u28, u29, u30, u31, u32, u33, u34, u35, u36, u37, u38, u39, u40, u41, u42, u43, u44, u45, u46, u47, u48, u49, u50, u51, u52, u53, u54, u55, u56, u57, u58, u59, u60, u61, u62, n63, n64, n65, n66, n67, n68, .bool false, u70, u71, u72, u73, u74, u75, u76, u77, u78, u79, u80, u81, u82, u83, u84, u85, u86, u87, u88, u89, u90, u91, u92, u93, u94], defers := [] } X2) :
    (Code.region 22 #[{ dst := some 63, op := Op.move (Operand.tmp 5), type := 33, pos := "law.go:93", after := #[], guard := none }, { dst := some 64, op := Op.load 28 (Operand.tmp 12), type := 28, pos := "law.go:93", after := #[], guard := none }, { dst := some 65, op := Op.call { callee := Callee.value (Operand.func 16), args := #[Operand.tmp 63, Operand.tmp 64], argTypes := #[33, 28] }, type := 4, pos := "law.go:93", after := #[{ on := 0, ground := Ground.data }, { on := 1, ground := Ground.data }], guard := none }, { dst := some 66, op := Op.move (Operand.tmp 6), type := 35, pos := "law.go:93", after := #[], guard := none }, { dst := some 67, op := Op.load 28 (Operand.tmp 12), type := 28, pos := "law.go:93", after := #[], guard := none }, { dst := some 68, op := Op.call { callee := Callee.value (Operand.func 17), args := #[Operand.tmp 66, Operand.tmp 67], argTypes := #[35, 28] }, type := 4, pos := "law.go:93", after := #[{ on := 3, ground := Ground.data }, { on := 4, ground := Ground.data }, { on := 2, ground := Ground.chain }], guard := none }, { dst := some 69, op := Op.binOp BinOp.neq 4 (Operand.tmp 65) (Operand.tmp 68) 4, type := 4, pos := "law.go:93", after := #[{ on := 2, ground := Ground.data }, { on := 5, ground := Ground.data }], guard := none }] true).wp Try.prog Q { tmps := #[u0, u1, u2, u3, u4, .pointer (some ⟨a, 0, none⟩), .pointer (some ⟨rb, 0, none⟩), u7, u8, u9, u10, u11, .pointer (some ⟨xb, 0, none⟩), u13, u14, u15, u16, u17, u18, u19, u20, u21, u22, u23, u24, u25, u26, u27, u28, u29, u30, u31, u32, u33, u34, u35, u36, u37, u38, u39, u40, u41, u42, u43, u44, u45, u46, u47, u48, u49, u50, u51, u52, u53, u54, u55, u56, u57, u58, u59, u60, u61, u62, u63, u64, u65, u66, u67, u68, u69, u70, u71, u72, u73, u74, u75, u76, u77, u78, u79, u80, u81, u82, u83, u84, u85, u86, u87, u88, u89, u90, u91, u92, u93, u94], defers := [] } X := by
  have hne : ((hitB S k).2 != (hitB S k).2) = false := by simp
  refine wp_mono (Q := Plain (fun a w => Q .normal a w)) ?_ (fun e a w h => by obtain ⟨rfl, h2⟩ := h; exact h2)
  refine wp_region_held (S := fun w' => Gr B p64 [a, ma, rb] X w') (by kernel_rfl) ?_
  change wpAnyH _ _ _ _ _ _ _ _ X.drew
  have F0 : Fr [] X X.drew := Fr.drew (Fr.refl [] X)
  have hA : BA X.drew a ma ca S := hA.drew
  have hR : RBk B X.drew rb S := hR.fr0 F0
  have hS : Gr B p64 [a, ma, rb] X X.drew := Gr.ofFr F0 (by simp)
  generalize X.drew = Y at *
  refine wpAnyH_take (i := 0) (oi := { dst := some 63, op := Op.move (Operand.tmp 5), type := 33, pos := "law.go:93", after := #[], guard := none }) (v := .pointer (some ⟨a, 0, none⟩)) rfl (by decide +kernel) (by decide +kernel) (by decide +kernel) (fun _ _ _ h => absurd h.1 (by simp)) (Or.inl ⟨by rfl, fun wq hSq => by first | rfl | go_simp⟩) hS ?_
  simp only [Act.put, List.setIfInBounds_toArray, List.set_cons_zero, List.set_cons_succ]
  refine wpAnyH_take (i := 1) (oi := { dst := some 64, op := Op.load 28 (Operand.tmp 12), type := 28, pos := "law.go:93", after := #[], guard := none }) (v := .agg (kc k)) rfl (by decide +kernel) (by decide +kernel) (by decide +kernel) (fun _ _ _ h => absurd h.1 (by simp)) (yieldsIf28 (yieldsIf_load_mid (by rfl) 28 (.tmp 12) rfl xb 0 rfl (kc k).toList _ l1 Try.underlying28 rfl (by rw [info28]; simp [kc_size]))) hS ?_
  simp only [Act.put, List.setIfInBounds_toArray, List.set_cons_zero, List.set_cons_succ]
  refine wpAnyH_take (i := 3) (oi := { dst := some 66, op := Op.move (Operand.tmp 6), type := 35, pos := "law.go:93", after := #[], guard := none }) (v := .pointer (some ⟨rb, 0, none⟩)) rfl (by decide +kernel) (by decide +kernel) (by decide +kernel) (fun _ _ _ h => absurd h.1 (by simp)) (Or.inl ⟨by rfl, fun wq hSq => by first | rfl | go_simp⟩) hS ?_
  simp only [Act.put, List.setIfInBounds_toArray, List.set_cons_zero, List.set_cons_succ]
  refine wpAnyH_take (i := 4) (oi := { dst := some 67, op := Op.load 28 (Operand.tmp 12), type := 28, pos := "law.go:93", after := #[], guard := none }) (v := .agg (kc k)) rfl (by decide +kernel) (by decide +kernel) (by decide +kernel) (fun _ _ _ h => absurd h.1 (by simp)) (yieldsIf28 (yieldsIf_load_mid (by rfl) 28 (.tmp 12) rfl xb 0 rfl (kc k).toList _ l1 Try.underlying28 rfl (by rw [info28]; simp [kc_size]))) hS ?_
  simp only [Act.put, List.setIfInBounds_toArray, List.set_cons_zero, List.set_cons_succ]
  refine wpAnyH_ready (rs := [2]) (by decide +kernel) (by simp) ?_
  refine AllReadyH.cons (o := { dst := some 65, op := Op.call { callee := Callee.value (Operand.func 16), args := #[Operand.tmp 63, Operand.tmp 64], argTypes := #[33, 28] }, type := 4, pos := "law.go:93", after := #[{ on := 0, ground := Ground.data }, { on := 1, ground := Ground.data }], guard := none }) rfl (fun K hK => ?_) AllReadyH.nil
  go_simp
  refine (hit_any hA hok he hk).mono ?_
  rintro e Y1 ⟨rfl, f1, hA⟩
  have hR := hR.fr f1 (by simp; omega) (fun q hq => .inl (by simp at hq; omega))
  have hS := hS.trans (Gr.ofFr f1 (fun q hq => .inl (by simp at hq ⊢; omega)))
  refine hK.out _ _ hS (fun _ => ?_)
  clear hK K
  try simp only [Act.put, List.setIfInBounds_toArray, List.set_cons_zero, List.set_cons_succ]
  refine wpAnyH_ready (rs := [5]) (by decide +kernel) (by simp) ?_
  refine AllReadyH.cons (o := { dst := some 68, op := Op.call { callee := Callee.value (Operand.func 17), args := #[Operand.tmp 66, Operand.tmp 67], argTypes := #[35, 28] }, type := 4, pos := "law.go:93", after := #[{ on := 3, ground := Ground.data }, { on := 4, ground := Ground.data }, { on := 2, ground := Ground.chain }], guard := none }) rfl (fun K hK => ?_) AllReadyH.nil
  go_simp
  refine (rhit_any hR (Nat.le_trans hB hS.size) hok hO hw hk).mono ?_
  rintro e Y2 ⟨rfl, f2, hR⟩
  have hA := hA.gr f2 rfl (by simp; omega) (by simp; omega) (by simp; omega)
  have hS := hS.trans (f2.sub (T' := [a, ma, rb]) (by simp))
  refine hK.out _ _ hS (fun _ => ?_)
  clear hK K
  try simp only [Act.put, List.setIfInBounds_toArray, List.set_cons_zero, List.set_cons_succ]
  refine wpAnyH_take (i := 6) (oi := { dst := some 69, op := Op.binOp BinOp.neq 4 (Operand.tmp 65) (Operand.tmp 68) 4, type := 4, pos := "law.go:93", after := #[{ on := 2, ground := Ground.data }, { on := 5, ground := Ground.data }], guard := none }) (v := .bool false) rfl (by decide +kernel) (by decide +kernel) (by decide +kernel) (fun _ _ _ h => absurd h.1 (by simp)) (Or.inl ⟨by rfl, fun wq hSq => by (have q := hne; go_simp)⟩) hS ?_
  simp only [Act.put, List.setIfInBounds_toArray, List.set_cons_zero, List.set_cons_succ]
  refine wpAnyH_done (by decide +kernel) ?_ _
  exact ⟨rfl, h _ _ _ _ _ _ _ hS hA hR⟩
set_option maxRecDepth 100000 in
set_option maxHeartbeats 4000000 in
theorem reg4b {X : World} {a ma ca rb xb B : Nat} {k : Ky} {S : Bk} (hA : BA X a ma ca S) (hR : RBk B X rb S) (hok : Ok S) (hO : S.O.length ≤ 100000) (hw : ∀ x ∈ S.O, kw x) (hk : kw k) (l1 : ∀ w', Fr [] X w' → w'.rangeAt xb 1 (kc k).toList)
    {Q : Exit → Act → World → Prop} {u0 u1 u2 u3 u4 u7 u9 u10 u11 u12 u13 u14 u15 u16 u17 u18 u19 u20 u21 u22 u23 u24 u25 u26 u27 u28 u29 u30 u31 u32 u33 u34 u35 u36 u37 u38 u39 u40 u41 u42 u43 u44 u45 u46 u47 u48 u49 u50 u51 u52 u53 u54 u55 u56 u57 u58 u59 u60 u61 u62 u63 u64 u65 u66 u67 u68 u69 u70 u71 u72 u73 u74 u75 u76 u77 u78 u79 u80 u81 u82 u83 u84 u85 u86 u87 u88 u89 u90 u91 u92 u93 u94 u95 u96 u97 u98 u99 u100 u101 u102 u103 u104 u105 : Value}
    (h : ∀ n48 n49 n50 n51 n52 n53 n54 n55 n56 n57 n58 n59 n60 n61 n62 n63 n64 n65 n66 n67 n68 n69 n70 n71 n72 n73 n74 n75 n76 X2, Fr [] X X2 → Q .normal { tmps := #[u0, u1, u2, u3, u4, .pointer (some ⟨a, 0, none⟩), .pointer (some ⟨rb, 0, none⟩), u7, .pointer (some ⟨xb, 0, none⟩), u9, u10, u11, u12, u13, u14, u15, u16, u17, u18, u19, u20, u21, u22, u23, u24, u25, u26, u27, u28, u29, u30, u31, u32, u33, u34, u35, u36, u37, u38, u39, u40, u41, u42, u43, u44, u45, u46, u47, n48, n49, n50, n51, n52, n53, n54, n55, n56, n57, n58, n59, n60, n61, n62, n63, n64, n65, n66, n67, n68, n69, n70, n71, n72, n73, n74, n75, n76, .bool false, u78, u79, u80, u81, u82, u83, u84, u85, u86, u87, u88, u89, u90, u91, u92, u93, u94, u95, u96, u97, u98, u99, u100, u101, u102, u103, u104, u105], defers := [] } X2) :
    (Code.region 16 #[{ dst := some 48, op := Op.move (Operand.tmp 5), type := 33, pos := "law.go:59", after := #[], guard := none }, { dst := some 49, op := Op.fieldAddr 38 (Operand.tmp 8) 1, type := 0, pos := "law.go:59", after := #[], guard := none }, { dst := some 50, op := Op.load 28 (Operand.tmp 49), type := 28, pos := "law.go:59", after := #[{ on := 1, ground := Ground.data }], guard := none }, { dst := some 51, op := Op.call { callee := Callee.value (Operand.func 18), args := #[Operand.tmp 48, Operand.tmp 50], argTypes := #[33, 28] }, type := 3, pos := "law.go:59", after := #[{ on := 0, ground := Ground.data }, { on := 2, ground := Ground.data }], guard := none }, { dst := some 52, op := Op.move (Operand.tmp 6), type := 35, pos := "law.go:59", after := #[], guard := none }, { dst := some 53, op := Op.fieldAddr 38 (Operand.tmp 8) 1, type := 0, pos := "law.go:59", after := #[], guard := none }, { dst := some 54, op := Op.load 28 (Operand.tmp 53), type := 28, pos := "law.go:59", after := #[{ on := 5, ground := Ground.data }], guard := none }, { dst := some 55, op := Op.call { callee := Callee.value (Operand.func 19), args := #[Operand.tmp 52, Operand.tmp 54], argTypes := #[35, 28] }, type := 3, pos := "law.go:59", after := #[{ on := 4, ground := Ground.data }, { on := 6, ground := Ground.data }, { on := 3, ground := Ground.chain }], guard := none }, { dst := some 56, op := Op.binOp BinOp.neq 3 (Operand.tmp 51) (Operand.tmp 55) 3, type := 4, pos := "law.go:59", after := #[{ on := 3, ground := Ground.data }, { on := 7, ground := Ground.data }], guard := none }, { dst := some 57, op := Op.move (Operand.tmp 56), type := 4, pos := "law.go:59", after := #[{ on := 8, ground := Ground.data }, { on := 7, ground := Ground.chain }], guard := none }, { dst := some 58, op := Op.move (Operand.tmp 5), type := 33, pos := "law.go:59", after := #[{ on := 9, ground := Ground.guard }], guard := some (9, false) }, { dst := some 59, op := Op.fieldAddr 38 (Operand.tmp 8) 1, type := 0, pos := "law.go:59", after := #[{ on := 9, ground := Ground.guard }], guard := some (9, false) }, { dst := some 60, op := Op.load 28 (Operand.tmp 59), type := 28, pos := "law.go:59", after := #[{ on := 11, ground := Ground.data }, { on := 9, ground := Ground.guard }], guard := some (9, false) }, { dst := some 61, op := Op.call { callee := Callee.value (Operand.func 20), args := #[Operand.tmp 58, Operand.tmp 60], argTypes := #[33, 28] }, type := 4, pos := "law.go:59", after := #[{ on := 10, ground := Ground.data }, { on := 12, ground := Ground.data }, { on := 9, ground := Ground.chain }, { on := 9, ground := Ground.guard }], guard := some (9, false) }, { dst := some 62, op := Op.move (Operand.tmp 6), type := 35, pos := "law.go:59", after := #[{ on := 9, ground := Ground.guard }], guard := some (9, false) }, { dst := some 63, op := Op.fieldAddr 38 (Operand.tmp 8) 1, type := 0, pos := "law.go:59", after := #[{ on := 9, ground := Ground.guard }], guard := some (9, false) }, { dst := some 64, op := Op.load 28 (Operand.tmp 63), type := 28, pos := "law.go:59", after := #[{ on := 15, ground := Ground.data }, { on := 9, ground := Ground.guard }], guard := some (9, false) }, { dst := some 65, op := Op.call { callee := Callee.value (Operand.func 21), args := #[Operand.tmp 62, Operand.tmp 64], argTypes := #[35, 28] }, type := 4, pos := "law.go:59", after := #[{ on := 14, ground := Ground.data }, { on := 16, ground := Ground.data }, { on := 13, ground := Ground.chain }, { on := 9, ground := Ground.guard }], guard := some (9, false) }, { dst := some 66, op := Op.binOp BinOp.neq 4 (Operand.tmp 61) (Operand.tmp 65) 4, type := 4, pos := "law.go:59", after := #[{ on := 13, ground := Ground.data }, { on := 17, ground := Ground.data }, { on := 9, ground := Ground.guard }], guard := some (9, false) }, { dst := some 67, op := Op.pick (Operand.tmp 57) (Operand.const (Value.bool true)) (Operand.tmp 66), type := 4, pos := "law.go:59", after := #[{ on := 9, ground := Ground.data }, { on := 18, ground := Ground.data }], guard := none }, { dst := some 68, op := Op.move (Operand.tmp 67), type := 4, pos := "law.go:59", after := #[{ on := 19, ground := Ground.data }, { on := 17, ground := Ground.chain }], guard := none }, { dst := some 69, op := Op.move (Operand.tmp 5), type := 33, pos := "law.go:59", after := #[{ on := 20, ground := Ground.guard }], guard := some (20, false) }, { dst := some 70, op := Op.call { callee := Callee.value (Operand.func 22), args := #[Operand.tmp 69], argTypes := #[33] }, type := 3, pos := "law.go:59", after := #[{ on := 21, ground := Ground.data }, { on := 20, ground := Ground.chain }, { on := 20, ground := Ground.guard }], guard := some (20, false) }, { dst := some 71, op := Op.move (Operand.tmp 6), type := 35, pos := "law.go:59", after := #[{ on := 20, ground := Ground.guard }], guard := some (20, false) }, { dst := some 72, op := Op.nilCheck (Operand.tmp 71), type := 0, pos := "law.go:59", after := #[{ on := 23, ground := Ground.data }, { on := 20, ground := Ground.guard }], guard := some (20, false) }, { dst := some 73, op := Op.fieldAddr 46 (Operand.tmp 72) 0, type := 0, pos := "law.go:59", after := #[{ on := 24, ground := Ground.data }, { on := 20, ground := Ground.guard }], guard := some (20, false) }, { dst := some 74, op := Op.load 43 (Operand.tmp 73), type := 43, pos := "law.go:59", after := #[{ on := 25, ground := Ground.data }, { on := 20, ground := Ground.guard }], guard := some (20, false) }, { dst := some 75, op := Op.call { callee := Callee.builtin Builtin.len, args := #[Operand.tmp 74], argTypes := #[43] }, type := 3, pos := "law.go:59", after := #[{ on := 26, ground := Ground.data }, { on := 20, ground := Ground.guard }], guard := some (20, false) }, { dst := some 76, op := Op.binOp BinOp.neq 3 (Operand.tmp 70) (Operand.tmp 75) 3, type := 4, pos := "law.go:59", after := #[{ on := 22, ground := Ground.data }, { on := 27, ground := Ground.data }, { on := 20, ground := Ground.guard }], guard := some (20, false) }, { dst := some 77, op := Op.pick (Operand.tmp 68) (Operand.const (Value.bool true)) (Operand.tmp 76), type := 4, pos := "law.go:59", after := #[{ on := 20, ground := Ground.data }, { on := 28, ground := Ground.data }], guard := none }] true).wp Try.prog Q { tmps := #[u0, u1, u2, u3, u4, .pointer (some ⟨a, 0, none⟩), .pointer (some ⟨rb, 0, none⟩), u7, .pointer (some ⟨xb, 0, none⟩), u9, u10, u11, u12, u13, u14, u15, u16, u17, u18, u19, u20, u21, u22, u23, u24, u25, u26, u27, u28, u29, u30, u31, u32, u33, u34, u35, u36, u37, u38, u39, u40, u41, u42, u43, u44, u45, u46, u47, u48, u49, u50, u51, u52, u53, u54, u55, u56, u57, u58, u59, u60, u61, u62, u63, u64, u65, u66, u67, u68, u69, u70, u71, u72, u73, u74, u75, u76, u77, u78, u79, u80, u81, u82, u83, u84, u85, u86, u87, u88, u89, u90, u91, u92, u93, u94, u95, u96, u97, u98, u99, u100, u101, u102, u103, u104, u105], defers := [] } X := by
  obtain ⟨fa, fc, N, hN, c0⟩ : ∃ fa fc N, N = S.L.length ∧ ∀ w', Fr [] X w' → w'.cell? ⟨rb, 0, none⟩ = some (.slice fa N fc) := by
    obtain ⟨sv, so, hb, hr, _⟩ := hR.ex
    obtain ⟨fa, fc, rfl, _⟩ := own_slice hr
    exact ⟨fa, fc, _, rfl, fun w' f => f.cell1 (at_cells hb 0 rfl) (by simp)⟩
  refine wp_mono (Q := Plain (fun a w => Q .normal a w)) ?_ (fun e a w h => by obtain ⟨rfl, h2⟩ := h; exact h2)
  refine wp_region_held (S := fun w' => Fr [] X w') (by kernel_rfl) ?_
  change wpAnyH _ _ _ _ _ _ _ _ X.drew
  have F0 : Fr [] X X.drew := Fr.drew (Fr.refl [] X)
  have hA : BA X.drew a ma ca S := hA.drew
  have hR : RBk B X.drew rb S := hR.fr0 F0
  have hS : Fr [] X X.drew := F0
  generalize X.drew = Y at *
  refine wpAnyH_take (i := 0) (oi := { dst := some 48, op := Op.move (Operand.tmp 5), type := 33, pos := "law.go:59", after := #[], guard := none }) (v := .pointer (some ⟨a, 0, none⟩)) rfl (by decide +kernel) (by decide +kernel) (by decide +kernel) (fun _ _ _ h => absurd h.1 (by simp)) (Or.inl ⟨by rfl, fun wq hSq => by first | rfl | go_simp⟩) hS ?_
  simp only [Act.put, List.setIfInBounds_toArray, List.set_cons_zero, List.set_cons_succ]
  refine wpAnyH_take (i := 1) (oi := { dst := some 49, op := Op.fieldAddr 38 (Operand.tmp 8) 1, type := 0, pos := "law.go:59", after := #[], guard := none }) (v := .pointer (some ⟨xb, 1, none⟩)) rfl (by decide +kernel) (by decide +kernel) (by decide +kernel) (fun _ _ _ h => absurd h.1 (by simp)) (Or.inl ⟨by rfl, fun wq hSq => by first | rfl | go_simp⟩) hS ?_
  simp only [Act.put, List.setIfInBounds_toArray, List.set_cons_zero, List.set_cons_succ]
  refine wpAnyH_take (i := 2) (oi := { dst := some 50, op := Op.load 28 (Operand.tmp 49), type := 28, pos := "law.go:59", after := #[{ on := 1, ground := Ground.data }], guard := none }) (v := .agg (kc k)) rfl (by decide +kernel) (by decide +kernel) (by decide +kernel) (fun _ _ _ h => absurd h.1 (by simp)) (yieldsIf28 (yieldsIf_load_mid (by rfl) 28 (.tmp 49) rfl xb 1 rfl (kc k).toList _ l1 Try.underlying28 rfl (by rw [info28]; simp [kc_size]))) hS ?_
  simp only [Act.put, List.setIfInBounds_toArray, List.set_cons_zero, List.set_cons_succ]
  refine wpAnyH_take (i := 4) (oi := { dst := some 52, op := Op.move (Operand.tmp 6), type := 35, pos := "law.go:59", after := #[], guard := none }) (v := .pointer (some ⟨rb, 0, none⟩)) rfl (by decide +kernel) (by decide +kernel) (by decide +kernel) (fun _ _ _ h => absurd h.1 (by simp)) (Or.inl ⟨by rfl, fun wq hSq => by first | rfl | go_simp⟩) hS ?_
  simp only [Act.put, List.setIfInBounds_toArray, List.set_cons_zero, List.set_cons_succ]
  refine wpAnyH_take (i := 5) (oi := { dst := some 53, op := Op.fieldAddr 38 (Operand.tmp 8) 1, type := 0, pos := "law.go:59", after := #[], guard := none }) (v := .pointer (some ⟨xb, 1, none⟩)) rfl (by decide +kernel) (by decide +kernel) (by decide +kernel) (fun _ _ _ h => absurd h.1 (by simp)) (Or.inl ⟨by rfl, fun wq hSq => by first | rfl | go_simp⟩) hS ?_
  simp only [Act.put, List.setIfInBounds_toArray, List.set_cons_zero, List.set_cons_succ]
  refine wpAnyH_take (i := 6) (oi := { dst := some 54, op := Op.load 28 (Operand.tmp 53), type := 28, pos := "law.go:59", after := #[{ on := 5, ground := Ground.data }], guard := none }) (v := .agg (kc k)) rfl (by decide +kernel) (by decide +kernel) (by decide +kernel) (fun _ _ _ h => absurd h.1 (by simp)) (yieldsIf28 (yieldsIf_load_mid (by rfl) 28 (.tmp 53) rfl xb 1 rfl (kc k).toList _ l1 Try.underlying28 rfl (by rw [info28]; simp [kc_size]))) hS ?_
  simp only [Act.put, List.setIfInBounds_toArray, List.set_cons_zero, List.set_cons_succ]
  refine wpAnyH_ready (rs := [3]) (by decide +kernel) (by simp) ?_
  refine AllReadyH.cons (o := { dst := some 51, op := Op.call { callee := Callee.value (Operand.func 18), args := #[Operand.tmp 48, Operand.tmp 50], argTypes := #[33, 28] }, type := 3, pos := "law.go:59", after := #[{ on := 0, ground := Ground.data }, { on := 2, ground := Ground.data }], guard := none }) rfl (fun K hK => ?_) AllReadyH.nil
  first | rw [if_pos (by rfl)] | skip
  go_simp
  refine (count_any hA hk).mono ?_
  rintro e Y1 ⟨rfl, f1⟩
  have hA := hA.fr f1 (by simp) (by simp) (by simp)
  have hR := hR.fr0 f1
  have hS := hS.trans f1
  refine hK.out _ _ hS (fun _ => ?_)
  clear hK K
  try simp only [Act.put, List.setIfInBounds_toArray, List.set_cons_zero, List.set_cons_succ]
  refine wpAnyH_ready (rs := [7]) (by decide +kernel) (by simp) ?_
  refine AllReadyH.cons (o := { dst := some 55, op := Op.call { callee := Callee.value (Operand.func 19), args := #[Operand.tmp 52, Operand.tmp 54], argTypes := #[35, 28] }, type := 3, pos := "law.go:59", after := #[{ on := 4, ground := Ground.data }, { on := 6, ground := Ground.data }, { on := 3, ground := Ground.chain }], guard := none }) rfl (fun K hK => ?_) AllReadyH.nil
  first | rw [if_pos (by rfl)] | skip
  go_simp
  refine (rcount_any hR hok hk).mono ?_
  rintro e Y1 ⟨rfl, f1⟩
  have hA := hA.fr f1 (by simp) (by simp) (by simp)
  have hR := hR.fr0 f1
  have hS := hS.trans f1
  refine hK.out _ _ hS (fun _ => ?_)
  clear hK K
  try simp only [Act.put, List.setIfInBounds_toArray, List.set_cons_zero, List.set_cons_succ]
  refine wpAnyH_take (i := 8) (oi := { dst := some 56, op := Op.binOp BinOp.neq 3 (Operand.tmp 51) (Operand.tmp 55) 3, type := 4, pos := "law.go:59", after := #[{ on := 3, ground := Ground.data }, { on := 7, ground := Ground.data }], guard := none }) (v := .bool false) rfl (by decide +kernel) (by decide +kernel) (by decide +kernel) (fun _ _ _ h => absurd h.1 (by simp)) (Or.inl ⟨by rfl, fun wq hSq => by first | rfl | go_simp⟩) hS ?_
  simp only [Act.put, List.setIfInBounds_toArray, List.set_cons_zero, List.set_cons_succ]
  refine wpAnyH_take (i := 9) (oi := { dst := some 57, op := Op.move (Operand.tmp 56), type := 4, pos := "law.go:59", after := #[{ on := 8, ground := Ground.data }, { on := 7, ground := Ground.chain }], guard := none }) (v := .bool false) rfl (by decide +kernel) (by decide +kernel) (by decide +kernel) (fun _ _ _ h => absurd h.1 (by simp)) (Or.inl ⟨by rfl, fun wq hSq => by first | rfl | go_simp⟩) hS ?_
  simp only [Act.put, List.setIfInBounds_toArray, List.set_cons_zero, List.set_cons_succ]
  refine wpAnyH_take (i := 10) (oi := { dst := some 58, op := Op.move (Operand.tmp 5), type := 33, pos := "law.go:59", after := #[{ on := 9, ground := Ground.guard }], guard := some (9, false) }) (v := .pointer (some ⟨a, 0, none⟩)) rfl (by decide +kernel) (by decide +kernel) (by decide +kernel) (fun _ _ _ h => absurd h.1 (by simp)) (Or.inl ⟨by rfl, fun wq hSq => by first | rfl | go_simp⟩) hS ?_
  simp only [Act.put, List.setIfInBounds_toArray, List.set_cons_zero, List.set_cons_succ]
  refine wpAnyH_take (i := 11) (oi := { dst := some 59, op := Op.fieldAddr 38 (Operand.tmp 8) 1, type := 0, pos := "law.go:59", after := #[{ on := 9, ground := Ground.guard }], guard := some (9, false) }) (v := .pointer (some ⟨xb, 1, none⟩)) rfl (by decide +kernel) (by decide +kernel) (by decide +kernel) (fun _ _ _ h => absurd h.1 (by simp)) (Or.inl ⟨by rfl, fun wq hSq => by first | rfl | go_simp⟩) hS ?_
  simp only [Act.put, List.setIfInBounds_toArray, List.set_cons_zero, List.set_cons_succ]
  refine wpAnyH_take (i := 12) (oi := { dst := some 60, op := Op.load 28 (Operand.tmp 59), type := 28, pos := "law.go:59", after := #[{ on := 11, ground := Ground.data }, { on := 9, ground := Ground.guard }], guard := some (9, false) }) (v := .agg (kc k)) rfl (by decide +kernel) (by decide +kernel) (by decide +kernel) (fun _ _ _ h => absurd h.1 (by simp)) (yieldsIf28 (yieldsIf_load_mid (by rfl) 28 (.tmp 59) rfl xb 1 rfl (kc k).toList _ l1 Try.underlying28 rfl (by rw [info28]; simp [kc_size]))) hS ?_
  simp only [Act.put, List.setIfInBounds_toArray, List.set_cons_zero, List.set_cons_succ]
  refine wpAnyH_take (i := 14) (oi := { dst := some 62, op := Op.move (Operand.tmp 6), type := 35, pos := "law.go:59", after := #[{ on := 9, ground := Ground.guard }], guard := some (9, false) }) (v := .pointer (some ⟨rb, 0, none⟩)) rfl (by decide +kernel) (by decide +kernel) (by decide +kernel) (fun _ _ _ h => absurd h.1 (by simp)) (Or.inl ⟨by rfl, fun wq hSq => by first | rfl | go_simp⟩) hS ?_
  simp only [Act.put, List.setIfInBounds_toArray, List.set_cons_zero, List.set_cons_succ]
  refine wpAnyH_take (i := 15) (oi := { dst := some 63, op := Op.fieldAddr 38 (Operand.tmp 8) 1, type := 0, pos := "law.go:59", after := #[{ on := 9, ground := Ground.guard }], guard := some (9, false) }) (v := .pointer (some ⟨xb, 1, none⟩)) rfl (by decide +kernel) (by decide +kernel) (by decide +kernel) (fun _ _ _ h => absurd h.1 (by simp)) (Or.inl ⟨by rfl, fun wq hSq => by first | rfl | go_simp⟩) hS ?_
  simp only [Act.put, List.setIfInBounds_toArray, List.set_cons_zero, List.set_cons_succ]
  refine wpAnyH_take (i := 16) (oi := { dst := some 64, op := Op.load 28 (Operand.tmp 63), type := 28, pos := "law.go:59", after := #[{ on := 15, ground := Ground.data }, { on := 9, ground := Ground.guard }], guard := some (9, false) }) (v := .agg (kc k)) rfl (by decide +kernel) (by decide +kernel) (by decide +kernel) (fun _ _ _ h => absurd h.1 (by simp)) (yieldsIf28 (yieldsIf_load_mid (by rfl) 28 (.tmp 63) rfl xb 1 rfl (kc k).toList _ l1 Try.underlying28 rfl (by rw [info28]; simp [kc_size]))) hS ?_
  simp only [Act.put, List.setIfInBounds_toArray, List.set_cons_zero, List.set_cons_succ]
  refine wpAnyH_ready (rs := [13]) (by decide +kernel) (by simp) ?_
  refine AllReadyH.cons (o := { dst := some 61, op := Op.call { callee := Callee.value (Operand.func 20), args := #[Operand.tmp 58, Operand.tmp 60], argTypes := #[33, 28] }, type := 4, pos := "law.go:59", after := #[{ on := 10, ground := Ground.data }, { on := 12, ground := Ground.data }, { on := 9, ground := Ground.chain }, { on := 9, ground := Ground.guard }], guard := some (9, false) }) rfl (fun K hK => ?_) AllReadyH.nil
  first | rw [if_pos (by rfl)] | skip
  go_simp
  refine (banned_any hA hk).mono ?_
  rintro e Y1 ⟨rfl, f1⟩
  have hA := hA.fr f1 (by simp) (by simp) (by simp)
  have hR := hR.fr0 f1
  have hS := hS.trans f1
  refine hK.out _ _ hS (fun _ => ?_)
  clear hK K
  try simp only [Act.put, List.setIfInBounds_toArray, List.set_cons_zero, List.set_cons_succ]
  refine wpAnyH_ready (rs := [17]) (by decide +kernel) (by simp) ?_
  refine AllReadyH.cons (o := { dst := some 65, op := Op.call { callee := Callee.value (Operand.func 21), args := #[Operand.tmp 62, Operand.tmp 64], argTypes := #[35, 28] }, type := 4, pos := "law.go:59", after := #[{ on := 14, ground := Ground.data }, { on := 16, ground := Ground.data }, { on := 13, ground := Ground.chain }, { on := 9, ground := Ground.guard }], guard := some (9, false) }) rfl (fun K hK => ?_) AllReadyH.nil
  first | rw [if_pos (by rfl)] | skip
  go_simp
  refine (rbanned_any hR hw (by omega) hk).mono ?_
  rintro e Y1 ⟨rfl, f1⟩
  have hA := hA.fr f1 (by simp) (by simp) (by simp)
  have hR := hR.fr0 f1
  have hS := hS.trans f1
  refine hK.out _ _ hS (fun _ => ?_)
  clear hK K
  try simp only [Act.put, List.setIfInBounds_toArray, List.set_cons_zero, List.set_cons_succ]
  refine wpAnyH_take (i := 18) (oi := { dst := some 66, op := Op.binOp BinOp.neq 4 (Operand.tmp 61) (Operand.tmp 65) 4, type := 4, pos := "law.go:59", after := #[{ on := 13, ground := Ground.data }, { on := 17, ground := Ground.data }, { on := 9, ground := Ground.guard }], guard := some (9, false) }) (v := .bool false) rfl (by decide +kernel) (by decide +kernel) (by decide +kernel) (fun _ _ _ h => absurd h.1 (by simp)) (Or.inl ⟨by rfl, fun wq hSq => by first | rfl | go_simp⟩) hS ?_
  simp only [Act.put, List.setIfInBounds_toArray, List.set_cons_zero, List.set_cons_succ]
  refine wpAnyH_take (i := 19) (oi := { dst := some 67, op := Op.pick (Operand.tmp 57) (Operand.const (Value.bool true)) (Operand.tmp 66), type := 4, pos := "law.go:59", after := #[{ on := 9, ground := Ground.data }, { on := 18, ground := Ground.data }], guard := none }) (v := .bool false) rfl (by decide +kernel) (by decide +kernel) (by decide +kernel) (fun _ _ _ h => absurd h.1 (by simp)) (Or.inl ⟨by rfl, fun wq hSq => by first | rfl | go_simp⟩) hS ?_
  simp only [Act.put, List.setIfInBounds_toArray, List.set_cons_zero, List.set_cons_succ]
  refine wpAnyH_take (i := 20) (oi := { dst := some 68, op := Op.move (Operand.tmp 67), type := 4, pos := "law.go:59", after := #[{ on := 19, ground := Ground.data }, { on := 17, ground := Ground.chain }], guard := none }) (v := .bool false) rfl (by decide +kernel) (by decide +kernel) (by decide +kernel) (fun _ _ _ h => absurd h.1 (by simp)) (Or.inl ⟨by rfl, fun wq hSq => by first | rfl | go_simp⟩) hS ?_
  simp only [Act.put, List.setIfInBounds_toArray, List.set_cons_zero, List.set_cons_succ]
  refine wpAnyH_take (i := 21) (oi := { dst := some 69, op := Op.move (Operand.tmp 5), type := 33, pos := "law.go:59", after := #[{ on := 20, ground := Ground.guard }], guard := some (20, false) }) (v := .pointer (some ⟨a, 0, none⟩)) rfl (by decide +kernel) (by decide +kernel) (by decide +kernel) (fun _ _ _ h => absurd h.1 (by simp)) (Or.inl ⟨by rfl, fun wq hSq => by first | rfl | go_simp⟩) hS ?_
  simp only [Act.put, List.setIfInBounds_toArray, List.set_cons_zero, List.set_cons_succ]
  refine wpAnyH_take (i := 23) (oi := { dst := some 71, op := Op.move (Operand.tmp 6), type := 35, pos := "law.go:59", after := #[{ on := 20, ground := Ground.guard }], guard := some (20, false) }) (v := .pointer (some ⟨rb, 0, none⟩)) rfl (by decide +kernel) (by decide +kernel) (by decide +kernel) (fun _ _ _ h => absurd h.1 (by simp)) (Or.inl ⟨by rfl, fun wq hSq => by first | rfl | go_simp⟩) hS ?_
  simp only [Act.put, List.setIfInBounds_toArray, List.set_cons_zero, List.set_cons_succ]
  refine wpAnyH_take (i := 24) (oi := { dst := some 72, op := Op.nilCheck (Operand.tmp 71), type := 0, pos := "law.go:59", after := #[{ on := 23, ground := Ground.data }, { on := 20, ground := Ground.guard }], guard := some (20, false) }) (v := .pointer (some ⟨rb, 0, none⟩)) rfl (by decide +kernel) (by decide +kernel) (by decide +kernel) (fun _ _ _ h => absurd h.1 (by simp)) (Or.inl ⟨by rfl, fun wq hSq => by first | rfl | go_simp⟩) hS ?_
  simp only [Act.put, List.setIfInBounds_toArray, List.set_cons_zero, List.set_cons_succ]
  refine wpAnyH_take (i := 25) (oi := { dst := some 73, op := Op.fieldAddr 46 (Operand.tmp 72) 0, type := 0, pos := "law.go:59", after := #[{ on := 24, ground := Ground.data }, { on := 20, ground := Ground.guard }], guard := some (20, false) }) (v := .pointer (some ⟨rb, 0, none⟩)) rfl (by decide +kernel) (by decide +kernel) (by decide +kernel) (fun _ _ _ h => absurd h.1 (by simp)) (Or.inl ⟨by rfl, fun wq hSq => by first | rfl | go_simp⟩) hS ?_
  simp only [Act.put, List.setIfInBounds_toArray, List.set_cons_zero, List.set_cons_succ]
  refine wpAnyH_take (i := 26) (oi := { dst := some 74, op := Op.load 43 (Operand.tmp 73), type := 43, pos := "law.go:59", after := #[{ on := 25, ground := Ground.data }, { on := 20, ground := Ground.guard }], guard := some (20, false) }) (v := .slice fa N fc) rfl (by decide +kernel) (by decide +kernel) (by decide +kernel) (fun _ _ _ h => absurd h.1 (by simp)) (Or.inl ⟨by rfl, fun wq hSq => by (have q := c0 wq hSq; go_simp)⟩) hS ?_
  simp only [Act.put, List.setIfInBounds_toArray, List.set_cons_zero, List.set_cons_succ]
  refine wpAnyH_take (i := 27) (oi := { dst := some 75, op := Op.call { callee := Callee.builtin Builtin.len, args := #[Operand.tmp 74], argTypes := #[43] }, type := 3, pos := "law.go:59", after := #[{ on := 26, ground := Ground.data }, { on := 20, ground := Ground.guard }], guard := some (20, false) }) (v := .int .i64 (N : Nat)) rfl (by decide +kernel) (by decide +kernel) (by decide +kernel) (fun _ _ _ h => absurd h.1 (by simp)) (Or.inl ⟨by rfl, fun wq hSq => by first | rfl | go_simp⟩) hS ?_
  simp only [Act.put, List.setIfInBounds_toArray, List.set_cons_zero, List.set_cons_succ]
  refine wpAnyH_ready (rs := [22]) (by decide +kernel) (by simp) ?_
  refine AllReadyH.cons (o := { dst := some 70, op := Op.call { callee := Callee.value (Operand.func 22), args := #[Operand.tmp 69], argTypes := #[33] }, type := 3, pos := "law.go:59", after := #[{ on := 21, ground := Ground.data }, { on := 20, ground := Ground.chain }, { on := 20, ground := Ground.guard }], guard := some (20, false) }) rfl (fun K hK => ?_) AllReadyH.nil
  first | rw [if_pos (by rfl)] | skip
  go_simp
  refine (len_any hA).mono ?_
  rintro e Y1 ⟨rfl, hY1⟩
  rw [hY1]
  clear hY1
  refine hK.out _ _ hS (fun _ => ?_)
  clear hK K
  try simp only [Act.put, List.setIfInBounds_toArray, List.set_cons_zero, List.set_cons_succ]
  refine wpAnyH_take (i := 28) (oi := { dst := some 76, op := Op.binOp BinOp.neq 3 (Operand.tmp 70) (Operand.tmp 75) 3, type := 4, pos := "law.go:59", after := #[{ on := 22, ground := Ground.data }, { on := 27, ground := Ground.data }, { on := 20, ground := Ground.guard }], guard := some (20, false) }) (v := .bool false) rfl (by decide +kernel) (by decide +kernel) (by decide +kernel) (fun _ _ _ h => absurd h.1 (by simp)) (Or.inl ⟨by rfl, fun wq hSq => by first | rfl | go_simp⟩) hS ?_
  simp only [Act.put, List.setIfInBounds_toArray, List.set_cons_zero, List.set_cons_succ]
  refine wpAnyH_take (i := 29) (oi := { dst := some 77, op := Op.pick (Operand.tmp 68) (Operand.const (Value.bool true)) (Operand.tmp 76), type := 4, pos := "law.go:59", after := #[{ on := 20, ground := Ground.data }, { on := 28, ground := Ground.data }], guard := none }) (v := .bool false) rfl (by decide +kernel) (by decide +kernel) (by decide +kernel) (fun _ _ _ h => absurd h.1 (by simp)) (Or.inl ⟨by rfl, fun wq hSq => by first | rfl | go_simp⟩) hS ?_
  simp only [Act.put, List.setIfInBounds_toArray, List.set_cons_zero, List.set_cons_succ]
  refine wpAnyH_done (by decide +kernel) ?_ _
  exact ⟨rfl, h _ _ _ _ _ _ _ _ _ _ _ _ _ _ _ _ _ _ _ _ _ _ _ _ _ _ _ _ _ _ hS⟩
set_option maxRecDepth 100000 in
set_option maxHeartbeats 4000000 in
theorem reg4c {X : World} {a ma ca rb xb B : Nat} {k : Ky} {S : Bk} (hA : BA X a ma ca S) (hR : RBk B X rb S) (hok : Ok S) (hO : S.O.length ≤ 100000) (hw : ∀ x ∈ S.O, kw x) (hk : kw k) (l1 : ∀ w', Fr [] X w' → w'.rangeAt xb 1 (kc k).toList)
    {Q : Exit → Act → World → Prop} {u0 u1 u2 u3 u4 u7 u8 u9 u11 u12 u13 u14 u15 u16 u17 u18 u19 u20 u21 u22 u23 u24 u25 u26 u27 u28 u29 u30 u31 u32 u33 u34 u35 u36 u37 u38 u39 u40 u41 u42 u43 u44 u45 u46 u47 u48 u49 u50 u51 u52 u53 u54 u55 u56 u57 u58 u59 u60 u61 u62 u63 u64 u65 u66 u67 u68 u69 u70 u71 u72 u73 u74 u75 u76 u77 u78 u79 u80 u81 u82 u83 u84 u85 u86 u87 u88 u89 u90 u91 u92 u93 u94 u95 u96 u97 u98 u99 u100 u101 u102 u103 u104 u105 : Value}
    (h : ∀ n85 n86 n87 n88 n89 n90 n91 n92 n93 n94 n95 n96 n97 n98 n99 n100 n101 n102 n103 X2, Fr [] X X2 → Q .normal { tmps := #[u0, u1, u2, u3, u4, .pointer (some ⟨a, 0, none⟩), .pointer (some ⟨rb, 0, none⟩), u7, u8, u9, .pointer (some ⟨xb, 0, none⟩), u11, u12, u13, u14, u15, u16, u17, u18, u19, u20, u21, u22, u23, u24, u25, u26, u27, u28, u29, u30, u31, u32, u33, u34, u35, u36, u37, u38, u39, u40, u41, u42, u43, u44, u45, u46, u47, u48, u49, u50, u51, u52, u53, u54, u55, u56, u57, u58, u59, u60, u61, u62, u63, u64, u65, u66, u67, u68, u69, u70, u71, u72, u73, u74, u75, u76, u77, u78, u79, u80, u81, u82, u83, u84, n85, n86, n87, n88, n89, n90, n91, n92, n93, n94, n95, n96, n97, n98, n99, n100, n101, n102, n103, .bool false, u105], defers := [] } X2) :
    (Code.region 22 #[{ dst := some 85, op := Op.move (Operand.tmp 5), type := 33, pos := "law.go:64", after := #[], guard := none }, { dst := some 86, op := Op.fieldAddr 38 (Operand.tmp 10) 1, type := 0, pos := "law.go:64", after := #[], guard := none }, { dst := some 87, op := Op.load 28 (Operand.tmp 86), type := 28, pos := "law.go:64", after := #[{ on := 1, ground := Ground.data }], guard := none }, { dst := some 88, op := Op.call { callee := Callee.value (Operand.func 18), args := #[Operand.tmp 85, Operand.tmp 87], argTypes := #[33, 28] }, type := 3, pos := "law.go:64", after := #[{ on := 0, ground := Ground.data }, { on := 2, ground := Ground.data }], guard := none }, { dst := some 89, op := Op.move (Operand.tmp 6), type := 35, pos := "law.go:64", after := #[], guard := none }, { dst := some 90, op := Op.fieldAddr 38 (Operand.tmp 10) 1, type := 0, pos := "law.go:64", after := #[], guard := none }, { dst := some 91, op := Op.load 28 (Operand.tmp 90), type := 28, pos := "law.go:64", after := #[{ on := 5, ground := Ground.data }], guard := none }, { dst := some 92, op := Op.call { callee := Callee.value (Operand.func 19), args := #[Operand.tmp 89, Operand.tmp 91], argTypes := #[35, 28] }, type := 3, pos := "law.go:64", after := #[{ on := 4, ground := Ground.data }, { on := 6, ground := Ground.data }, { on := 3, ground := Ground.chain }], guard := none }, { dst := some 93, op := Op.binOp BinOp.neq 3 (Operand.tmp 88) (Operand.tmp 92) 3, type := 4, pos := "law.go:64", after := #[{ on := 3, ground := Ground.data }, { on := 7, ground := Ground.data }], guard := none }, { dst := some 94, op := Op.move (Operand.tmp 93), type := 4, pos := "law.go:64", after := #[{ on := 8, ground := Ground.data }, { on := 7, ground := Ground.chain }], guard := none }, { dst := some 95, op := Op.move (Operand.tmp 5), type := 33, pos := "law.go:64", after := #[{ on := 9, ground := Ground.guard }], guard := some (9, false) }, { dst := some 96, op := Op.fieldAddr 38 (Operand.tmp 10) 1, type := 0, pos := "law.go:64", after := #[{ on := 9, ground := Ground.guard }], guard := some (9, false) }, { dst := some 97, op := Op.load 28 (Operand.tmp 96), type := 28, pos := "law.go:64", after := #[{ on := 11, ground := Ground.data }, { on := 9, ground := Ground.guard }], guard := some (9, false) }, { dst := some 98, op := Op.call { callee := Callee.value (Operand.func 20), args := #[Operand.tmp 95, Operand.tmp 97], argTypes := #[33, 28] }, type := 4, pos := "law.go:64", after := #[{ on := 10, ground := Ground.data }, { on := 12, ground := Ground.data }, { on := 9, ground := Ground.chain }, { on := 9, ground := Ground.guard }], guard := some (9, false) }, { dst := some 99, op := Op.move (Operand.tmp 6), type := 35, pos := "law.go:64", after := #[{ on := 9, ground := Ground.guard }], guard := some (9, false) }, { dst := some 100, op := Op.fieldAddr 38 (Operand.tmp 10) 1, type := 0, pos := "law.go:64", after := #[{ on := 9, ground := Ground.guard }], guard := some (9, false) }, { dst := some 101, op := Op.load 28 (Operand.tmp 100), type := 28, pos := "law.go:64", after := #[{ on := 15, ground := Ground.data }, { on := 9, ground := Ground.guard }], guard := some (9, false) }, { dst := some 102, op := Op.call { callee := Callee.value (Operand.func 21), args := #[Operand.tmp 99, Operand.tmp 101], argTypes := #[35, 28] }, type := 4, pos := "law.go:64", after := #[{ on := 14, ground := Ground.data }, { on := 16, ground := Ground.data }, { on := 13, ground := Ground.chain }, { on := 9, ground := Ground.guard }], guard := some (9, false) }, { dst := some 103, op := Op.binOp BinOp.neq 4 (Operand.tmp 98) (Operand.tmp 102) 4, type := 4, pos := "law.go:64", after := #[{ on := 13, ground := Ground.data }, { on := 17, ground := Ground.data }, { on := 9, ground := Ground.guard }], guard := some (9, false) }, { dst := some 104, op := Op.pick (Operand.tmp 94) (Operand.const (Value.bool true)) (Operand.tmp 103), type := 4, pos := "law.go:64", after := #[{ on := 9, ground := Ground.data }, { on := 18, ground := Ground.data }], guard := none }] true).wp Try.prog Q { tmps := #[u0, u1, u2, u3, u4, .pointer (some ⟨a, 0, none⟩), .pointer (some ⟨rb, 0, none⟩), u7, u8, u9, .pointer (some ⟨xb, 0, none⟩), u11, u12, u13, u14, u15, u16, u17, u18, u19, u20, u21, u22, u23, u24, u25, u26, u27, u28, u29, u30, u31, u32, u33, u34, u35, u36, u37, u38, u39, u40, u41, u42, u43, u44, u45, u46, u47, u48, u49, u50, u51, u52, u53, u54, u55, u56, u57, u58, u59, u60, u61, u62, u63, u64, u65, u66, u67, u68, u69, u70, u71, u72, u73, u74, u75, u76, u77, u78, u79, u80, u81, u82, u83, u84, u85, u86, u87, u88, u89, u90, u91, u92, u93, u94, u95, u96, u97, u98, u99, u100, u101, u102, u103, u104, u105], defers := [] } X := by
  obtain ⟨fa, fc, N, hN, c0⟩ : ∃ fa fc N, N = S.L.length ∧ ∀ w', Fr [] X w' → w'.cell? ⟨rb, 0, none⟩ = some (.slice fa N fc) := by
    obtain ⟨sv, so, hb, hr, _⟩ := hR.ex
    obtain ⟨fa, fc, rfl, _⟩ := own_slice hr
    exact ⟨fa, fc, _, rfl, fun w' f => f.cell1 (at_cells hb 0 rfl) (by simp)⟩
  refine wp_mono (Q := Plain (fun a w => Q .normal a w)) ?_ (fun e a w h => by obtain ⟨rfl, h2⟩ := h; exact h2)
  refine wp_region_held (S := fun w' => Fr [] X w') (by kernel_rfl) ?_
  change wpAnyH _ _ _ _ _ _ _ _ X.drew
  have F0 : Fr [] X X.drew := Fr.drew (Fr.refl [] X)
  have hA : BA X.drew a ma ca S := hA.drew
  have hR : RBk B X.drew rb S := hR.fr0 F0
  have hS : Fr [] X X.drew := F0
  generalize X.drew = Y at *
  refine wpAnyH_take (i := 0) (oi := { dst := some 85, op := Op.move (Operand.tmp 5), type := 33, pos := "law.go:64", after := #[], guard := none }) (v := .pointer (some ⟨a, 0, none⟩)) rfl (by decide +kernel) (by decide +kernel) (by decide +kernel) (fun _ _ _ h => absurd h.1 (by simp)) (Or.inl ⟨by rfl, fun wq hSq => by first | rfl | go_simp⟩) hS ?_
  simp only [Act.put, List.setIfInBounds_toArray, List.set_cons_zero, List.set_cons_succ]
  refine wpAnyH_take (i := 1) (oi := { dst := some 86, op := Op.fieldAddr 38 (Operand.tmp 10) 1, type := 0, pos := "law.go:64", after := #[], guard := none }) (v := .pointer (some ⟨xb, 1, none⟩)) rfl (by decide +kernel) (by decide +kernel) (by decide +kernel) (fun _ _ _ h => absurd h.1 (by simp)) (Or.inl ⟨by rfl, fun wq hSq => by first | rfl | go_simp⟩) hS ?_
  simp only [Act.put, List.setIfInBounds_toArray, List.set_cons_zero, List.set_cons_succ]
  refine wpAnyH_take (i := 2) (oi := { dst := some 87, op := Op.load 28 (Operand.tmp 86), type := 28, pos := "law.go:64", after := #[{ on := 1, ground := Ground.data }], guard := none }) (v := .agg (kc k)) rfl (by decide +kernel) (by decide +kernel) (by decide +kernel) (fun _ _ _ h => absurd h.1 (by simp)) (yieldsIf28 (yieldsIf_load_mid (by rfl) 28 (.tmp 86) rfl xb 1 rfl (kc k).toList _ l1 Try.underlying28 rfl (by rw [info28]; simp [kc_size]))) hS ?_
  simp only [Act.put, List.setIfInBounds_toArray, List.set_cons_zero, List.set_cons_succ]
  refine wpAnyH_take (i := 4) (oi := { dst := some 89, op := Op.move (Operand.tmp 6), type := 35, pos := "law.go:64", after := #[], guard := none }) (v := .pointer (some ⟨rb, 0, none⟩)) rfl (by decide +kernel) (by decide +kernel) (by decide +kernel) (fun _ _ _ h => absurd h.1 (by simp)) (Or.inl ⟨by rfl, fun wq hSq => by first | rfl | go_simp⟩) hS ?_
  simp only [Act.put, List.setIfInBounds_toArray, List.set_cons_zero, List.set_cons_succ]
  refine wpAnyH_take (i := 5) (oi := { dst := some 90, op := Op.fieldAddr 38 (Operand.tmp 10) 1, type := 0, pos := "law.go:64", after := #[], guard := none }) (v := .pointer (some ⟨xb, 1, none⟩)) rfl (by decide +kernel) (by decide +kernel) (by decide +kernel) (fun _ _ _ h => absurd h.1 (by simp)) (Or.inl ⟨by rfl, fun wq hSq => by first | rfl | go_simp⟩) hS ?_
  simp only [Act.put, List.setIfInBounds_toArray, List.set_cons_zero, List.set_cons_succ]
  refine wpAnyH_take (i := 6) (oi := { dst := some 91, op := Op.load 28 (Operand.tmp 90), type := 28, pos := "law.go:64", after := #[{ on := 5, ground := Ground.data }], guard := none }) (v := .agg (kc k)) rfl (by decide +kernel) (by decide +kernel) (by decide +kernel) (fun _ _ _ h => absurd h.1 (by simp)) (yieldsIf28 (yieldsIf_load_mid (by rfl) 28 (.tmp 90) rfl xb 1 rfl (kc k).toList _ l1 Try.underlying28 rfl (by rw [info28]; simp [kc_size]))) hS ?_
  simp only [Act.put, List.setIfInBounds_toArray, List.set_cons_zero, List.set_cons_succ]
  refine wpAnyH_ready (rs := [3]) (by decide +kernel) (by simp) ?_
  refine AllReadyH.cons (o := { dst := some 88, op := Op.call { callee := Callee.value (Operand.func 18), args := #[Operand.tmp 85, Operand.tmp 87], argTypes := #[33, 28] }, type := 3, pos := "law.go:64", after := #[{ on := 0, ground := Ground.data }, { on := 2, ground := Ground.data }], guard := none }) rfl (fun K hK => ?_) AllReadyH.nil
  first | rw [if_pos (by rfl)] | skip
  go_simp
  refine (count_any hA hk).mono ?_
  rintro e Y1 ⟨rfl, f1⟩
  have hA := hA.fr f1 (by simp) (by simp) (by simp)
  have hR := hR.fr0 f1
  have hS := hS.trans f1
  refine hK.out _ _ hS (fun _ => ?_)
  clear hK K
  try simp only [Act.put, List.setIfInBounds_toArray, List.set_cons_zero, List.set_cons_succ]
  refine wpAnyH_ready (rs := [7]) (by decide +kernel) (by simp) ?_
  refine AllReadyH.cons (o := { dst := some 92, op := Op.call { callee := Callee.value (Operand.func 19), args := #[Operand.tmp 89, Operand.tmp 91], argTypes := #[35, 28] }, type := 3, pos := "law.go:64", after := #[{ on := 4, ground := Ground.data }, { on := 6, ground := Ground.data }, { on := 3, ground := Ground.chain }], guard := none }) rfl (fun K hK => ?_) AllReadyH.nil
  first | rw [if_pos (by rfl)] | skip
  go_simp
  refine (rcount_any hR hok hk).mono ?_
  rintro e Y1 ⟨rfl, f1⟩
  have hA := hA.fr f1 (by simp) (by simp) (by simp)
  have hR := hR.fr0 f1
  have hS := hS.trans f1
  refine hK.out _ _ hS (fun _ => ?_)
  clear hK K
  try simp only [Act.put, List.setIfInBounds_toArray, List.set_cons_zero, List.set_cons_succ]
  refine wpAnyH_take (i := 8) (oi := { dst := some 93, op := Op.binOp BinOp.neq 3 (Operand.tmp 88) (Operand.tmp 92) 3, type := 4, pos := "law.go:64", after := #[{ on := 3, ground := Ground.data }, { on := 7, ground := Ground.data }], guard := none }) (v := .bool false) rfl (by decide +kernel) (by decide +kernel) (by decide +kernel) (fun _ _ _ h => absurd h.1 (by simp)) (Or.inl ⟨by rfl, fun wq hSq => by first | rfl | go_simp⟩) hS ?_
  simp only [Act.put, List.setIfInBounds_toArray, List.set_cons_zero, List.set_cons_succ]
  refine wpAnyH_take (i := 9) (oi := { dst := some 94, op := Op.move (Operand.tmp 93), type := 4, pos := "law.go:64", after := #[{ on := 8, ground := Ground.data }, { on := 7, ground := Ground.chain }], guard := none }) (v := .bool false) rfl (by decide +kernel) (by decide +kernel) (by decide +kernel) (fun _ _ _ h => absurd h.1 (by simp)) (Or.inl ⟨by rfl, fun wq hSq => by first | rfl | go_simp⟩) hS ?_
  simp only [Act.put, List.setIfInBounds_toArray, List.set_cons_zero, List.set_cons_succ]
  refine wpAnyH_take (i := 10) (oi := { dst := some 95, op := Op.move (Operand.tmp 5), type := 33, pos := "law.go:64", after := #[{ on := 9, ground := Ground.guard }], guard := some (9, false) }) (v := .pointer (some ⟨a, 0, none⟩)) rfl (by decide +kernel) (by decide +kernel) (by decide +kernel) (fun _ _ _ h => absurd h.1 (by simp)) (Or.inl ⟨by rfl, fun wq hSq => by first | rfl | go_simp⟩) hS ?_
  simp only [Act.put, List.setIfInBounds_toArray, List.set_cons_zero, List.set_cons_succ]
  refine wpAnyH_take (i := 11) (oi := { dst := some 96, op := Op.fieldAddr 38 (Operand.tmp 10) 1, type := 0, pos := "law.go:64", after := #[{ on := 9, ground := Ground.guard }], guard := some (9, false) }) (v := .pointer (some ⟨xb, 1, none⟩)) rfl (by decide +kernel) (by decide +kernel) (by decide +kernel) (fun _ _ _ h => absurd h.1 (by simp)) (Or.inl ⟨by rfl, fun wq hSq => by first | rfl | go_simp⟩) hS ?_
  simp only [Act.put, List.setIfInBounds_toArray, List.set_cons_zero, List.set_cons_succ]
  refine wpAnyH_take (i := 12) (oi := { dst := some 97, op := Op.load 28 (Operand.tmp 96), type := 28, pos := "law.go:64", after := #[{ on := 11, ground := Ground.data }, { on := 9, ground := Ground.guard }], guard := some (9, false) }) (v := .agg (kc k)) rfl (by decide +kernel) (by decide +kernel) (by decide +kernel) (fun _ _ _ h => absurd h.1 (by simp)) (yieldsIf28 (yieldsIf_load_mid (by rfl) 28 (.tmp 96) rfl xb 1 rfl (kc k).toList _ l1 Try.underlying28 rfl (by rw [info28]; simp [kc_size]))) hS ?_
  simp only [Act.put, List.setIfInBounds_toArray, List.set_cons_zero, List.set_cons_succ]
  refine wpAnyH_take (i := 14) (oi := { dst := some 99, op := Op.move (Operand.tmp 6), type := 35, pos := "law.go:64", after := #[{ on := 9, ground := Ground.guard }], guard := some (9, false) }) (v := .pointer (some ⟨rb, 0, none⟩)) rfl (by decide +kernel) (by decide +kernel) (by decide +kernel) (fun _ _ _ h => absurd h.1 (by simp)) (Or.inl ⟨by rfl, fun wq hSq => by first | rfl | go_simp⟩) hS ?_
  simp only [Act.put, List.setIfInBounds_toArray, List.set_cons_zero, List.set_cons_succ]
  refine wpAnyH_take (i := 15) (oi := { dst := some 100, op := Op.fieldAddr 38 (Operand.tmp 10) 1, type := 0, pos := "law.go:64", after := #[{ on := 9, ground := Ground.guard }], guard := some (9, false) }) (v := .pointer (some ⟨xb, 1, none⟩)) rfl (by decide +kernel) (by decide +kernel) (by decide +kernel) (fun _ _ _ h => absurd h.1 (by simp)) (Or.inl ⟨by rfl, fun wq hSq => by first | rfl | go_simp⟩) hS ?_
  simp only [Act.put, List.setIfInBounds_toArray, List.set_cons_zero, List.set_cons_succ]
  refine wpAnyH_take (i := 16) (oi := { dst := some 101, op := Op.load 28 (Operand.tmp 100), type := 28, pos := "law.go:64", after := #[{ on := 15, ground := Ground.data }, { on := 9, ground := Ground.guard }], guard := some (9, false) }) (v := .agg (kc k)) rfl (by decide +kernel) (by decide +kernel) (by decide +kernel) (fun _ _ _ h => absurd h.1 (by simp)) (yieldsIf28 (yieldsIf_load_mid (by rfl) 28 (.tmp 100) rfl xb 1 rfl (kc k).toList _ l1 Try.underlying28 rfl (by rw [info28]; simp [kc_size]))) hS ?_
  simp only [Act.put, List.setIfInBounds_toArray, List.set_cons_zero, List.set_cons_succ]
  refine wpAnyH_ready (rs := [13]) (by decide +kernel) (by simp) ?_
  refine AllReadyH.cons (o := { dst := some 98, op := Op.call { callee := Callee.value (Operand.func 20), args := #[Operand.tmp 95, Operand.tmp 97], argTypes := #[33, 28] }, type := 4, pos := "law.go:64", after := #[{ on := 10, ground := Ground.data }, { on := 12, ground := Ground.data }, { on := 9, ground := Ground.chain }, { on := 9, ground := Ground.guard }], guard := some (9, false) }) rfl (fun K hK => ?_) AllReadyH.nil
  first | rw [if_pos (by rfl)] | skip
  go_simp
  refine (banned_any hA hk).mono ?_
  rintro e Y1 ⟨rfl, f1⟩
  have hA := hA.fr f1 (by simp) (by simp) (by simp)
  have hR := hR.fr0 f1
  have hS := hS.trans f1
  refine hK.out _ _ hS (fun _ => ?_)
  clear hK K
  try simp only [Act.put, List.setIfInBounds_toArray, List.set_cons_zero, List.set_cons_succ]
  refine wpAnyH_ready (rs := [17]) (by decide +kernel) (by simp) ?_
  refine AllReadyH.cons (o := { dst := some 102, op := Op.call { callee := Callee.value (Operand.func 21), args := #[Operand.tmp 99, Operand.tmp 101], argTypes := #[35, 28] }, type := 4, pos := "law.go:64", after := #[{ on := 14, ground := Ground.data }, { on := 16, ground := Ground.data }, { on := 13, ground := Ground.chain }, { on := 9, ground := Ground.guard }], guard := some (9, false) }) rfl (fun K hK => ?_) AllReadyH.nil
  first | rw [if_pos (by rfl)] | skip
  go_simp
  refine (rbanned_any hR hw (by omega) hk).mono ?_
  rintro e Y1 ⟨rfl, f1⟩
  have hA := hA.fr f1 (by simp) (by simp) (by simp)
  have hR := hR.fr0 f1
  have hS := hS.trans f1
  refine hK.out _ _ hS (fun _ => ?_)
  clear hK K
  try simp only [Act.put, List.setIfInBounds_toArray, List.set_cons_zero, List.set_cons_succ]
  refine wpAnyH_take (i := 18) (oi := { dst := some 103, op := Op.binOp BinOp.neq 4 (Operand.tmp 98) (Operand.tmp 102) 4, type := 4, pos := "law.go:64", after := #[{ on := 13, ground := Ground.data }, { on := 17, ground := Ground.data }, { on := 9, ground := Ground.guard }], guard := some (9, false) }) (v := .bool false) rfl (by decide +kernel) (by decide +kernel) (by decide +kernel) (fun _ _ _ h => absurd h.1 (by simp)) (Or.inl ⟨by rfl, fun wq hSq => by first | rfl | go_simp⟩) hS ?_
  simp only [Act.put, List.setIfInBounds_toArray, List.set_cons_zero, List.set_cons_succ]
  refine wpAnyH_take (i := 19) (oi := { dst := some 104, op := Op.pick (Operand.tmp 94) (Operand.const (Value.bool true)) (Operand.tmp 103), type := 4, pos := "law.go:64", after := #[{ on := 9, ground := Ground.data }, { on := 18, ground := Ground.data }], guard := none }) (v := .bool false) rfl (by decide +kernel) (by decide +kernel) (by decide +kernel) (fun _ _ _ h => absurd h.1 (by simp)) (Or.inl ⟨by rfl, fun wq hSq => by first | rfl | go_simp⟩) hS ?_
  simp only [Act.put, List.setIfInBounds_toArray, List.set_cons_zero, List.set_cons_succ]
  refine wpAnyH_done (by decide +kernel) ?_ _
  exact ⟨rfl, h _ _ _ _ _ _ _ _ _ _ _ _ _ _ _ _ _ _ _ _ hS⟩
set_option maxRecDepth 100000 in
set_option maxHeartbeats 4000000 in
theorem reg5b {X : World} {a ma ca rb xb B : Nat} {k : Ky} {S : Bk} (hA : BA X a ma ca S) (hR : RBk B X rb S) (hok : Ok S) (hO : S.O.length ≤ 100000) (hw : ∀ x ∈ S.O, kw x) (hk : kw k) (l1 : ∀ w', Fr [] X w' → w'.rangeAt xb 0 (kc k).toList)
    {Q : Exit → Act → World → Prop} {u0 u1 u2 u3 u4 u7 u8 u9 u10 u11 u12 u13 u14 u16 u17 u18 u19 u20 u21 u22 u23 u24 u25 u26 u27 u28 u29 u30 u31 u32 u33 u34 u35 u36 u37 u38 u39 u40 u41 u42 u43 u44 u45 u46 u47 u48 u49 u50 u51 u52 u53 u54 u55 u56 u57 u58 u59 u60 u61 u62 u63 u64 u65 u66 u67 u68 u69 u70 u71 u72 u73 u74 u75 u76 u77 u78 u79 u80 u81 u82 u83 u84 u85 u86 u87 u88 u89 u90 u91 u92 u93 u94 : Value}
    (h : ∀ n79 n80 n81 n82 n83 n84 X2, Fr [] X X2 → Q .normal { tmps := #[u0, u1, u2, u3, u4, .pointer (some ⟨a, 0, none⟩), .pointer (some ⟨rb, 0, none⟩), u7, u8, u9, u10, u11, u12, u13, u14, .pointer (some ⟨xb, 0, none⟩), u16, u17, u18, u19, u20, u21, u22, u23, u24, u25, u26, u27, u28, u29, u30, u31, u32, u33, u34, u35, u36, u37, u38, u39, u40, u41, u42, u43, u44, u45, u46, u47, u48, u49, u50, u51, u52, u53, u54, u55, u56, u57, u58, u59, u60, u61, u62, u63, u64, u65, u66, u67, u68, u69, u70, u71, u72, u73, u74, u75, u76, u77, u78, n79, n80, n81, n82, n83, n84, .bool false, u86, u87, u88, u89, u90, u91, u92, u93, u94], defers := [] } X2) :
    (Code.region 29 #[{ dst := some 79, op := Op.move (Operand.tmp 5), type := 33, pos := "law.go:99", after := #[], guard := none }, { dst := some 80, op := Op.load 28 (Operand.tmp 15), type := 28, pos := "law.go:99", after := #[], guard := none }, { dst := some 81, op := Op.call { callee := Callee.value (Operand.func 18), args := #[Operand.tmp 79, Operand.tmp 80], argTypes := #[33, 28] }, type := 3, pos := "law.go:99", after := #[{ on := 0, ground := Ground.data }, { on := 1, ground := Ground.data }], guard := none }, { dst := some 82, op := Op.move (Operand.tmp 6), type := 35, pos := "law.go:99", after := #[], guard := none }, { dst := some 83, op := Op.load 28 (Operand.tmp 15), type := 28, pos := "law.go:99", after := #[], guard := none }, { dst := some 84, op := Op.call { callee := Callee.value (Operand.func 19), args := #[Operand.tmp 82, Operand.tmp 83], argTypes := #[35, 28] }, type := 3, pos := "law.go:99", after := #[{ on := 3, ground := Ground.data }, { on := 4, ground := Ground.data }, { on := 2, ground := Ground.chain }], guard := none }, { dst := some 85, op := Op.binOp BinOp.neq 3 (Operand.tmp 81) (Operand.tmp 84) 3, type := 4, pos := "law.go:99", after := #[{ on := 2, ground := Ground.data }, { on := 5, ground := Ground.data }], guard := none }] true).wp Try.prog Q { tmps := #[u0, u1, u2, u3, u4, .pointer (some ⟨a, 0, none⟩), .pointer (some ⟨rb, 0, none⟩), u7, u8, u9, u10, u11, u12, u13, u14, .pointer (some ⟨xb, 0, none⟩), u16, u17, u18, u19, u20, u21, u22, u23, u24, u25, u26, u27, u28, u29, u30, u31, u32, u33, u34, u35, u36, u37, u38, u39, u40, u41, u42, u43, u44, u45, u46, u47, u48, u49, u50, u51, u52, u53, u54, u55, u56, u57, u58, u59, u60, u61, u62, u63, u64, u65, u66, u67, u68, u69, u70, u71, u72, u73, u74, u75, u76, u77, u78, u79, u80, u81, u82, u83, u84, u85, u86, u87, u88, u89, u90, u91, u92, u93, u94], defers := [] } X := by
  obtain ⟨fa, fc, N, hN, c0⟩ : ∃ fa fc N, N = S.L.length ∧ ∀ w', Fr [] X w' → w'.cell? ⟨rb, 0, none⟩ = some (.slice fa N fc) := by
    obtain ⟨sv, so, hb, hr, _⟩ := hR.ex
    obtain ⟨fa, fc, rfl, _⟩ := own_slice hr
    exact ⟨fa, fc, _, rfl, fun w' f => f.cell1 (at_cells hb 0 rfl) (by simp)⟩
  refine wp_mono (Q := Plain (fun a w => Q .normal a w)) ?_ (fun e a w h => by obtain ⟨rfl, h2⟩ := h; exact h2)
  refine wp_region_held (S := fun w' => Fr [] X w') (by kernel_rfl) ?_
  change wpAnyH _ _ _ _ _ _ _ _ X.drew
  have F0 : Fr [] X X.drew := Fr.drew (Fr.refl [] X)
  have hA : BA X.drew a ma ca S := hA.drew
  have hR : RBk B X.drew rb S := hR.fr0 F0
  have hS : Fr [] X X.drew := F0
  generalize X.drew = Y at *
  refine wpAnyH_take (i := 0) (oi := { dst := some 79, op := Op.move (Operand.tmp 5), type := 33, pos := "law.go:99", after := #[], guard := none }) (v := .pointer (some ⟨a, 0, none⟩)) rfl (by decide +kernel) (by decide +kernel) (by decide +kernel) (fun _ _ _ h => absurd h.1 (by simp)) (Or.inl ⟨by rfl, fun wq hSq => by first | rfl | go_simp⟩) hS ?_
  simp only [Act.put, List.setIfInBounds_toArray, List.set_cons_zero, List.set_cons_succ]
  refine wpAnyH_take (i := 1) (oi := { dst := some 80, op := Op.load 28 (Operand.tmp 15), type := 28, pos := "law.go:99", after := #[], guard := none }) (v := .agg (kc k)) rfl (by decide +kernel) (by decide +kernel) (by decide +kernel) (fun _ _ _ h => absurd h.1 (by simp)) (yieldsIf28 (yieldsIf_load_mid (by rfl) 28 (.tmp 15) rfl xb 0 rfl (kc k).toList _ l1 Try.underlying28 rfl (by rw [info28]; simp [kc_size]))) hS ?_
  simp only [Act.put, List.setIfInBounds_toArray, List.set_cons_zero, List.set_cons_succ]
  refine wpAnyH_take (i := 3) (oi := { dst := some 82, op := Op.move (Operand.tmp 6), type := 35, pos := "law.go:99", after := #[], guard := none }) (v := .pointer (some ⟨rb, 0, none⟩)) rfl (by decide +kernel) (by decide +kernel) (by decide +kernel) (fun _ _ _ h => absurd h.1 (by simp)) (Or.inl ⟨by rfl, fun wq hSq => by first | rfl | go_simp⟩) hS ?_
  simp only [Act.put, List.setIfInBounds_toArray, List.set_cons_zero, List.set_cons_succ]
  refine wpAnyH_take (i := 4) (oi := { dst := some 83, op := Op.load 28 (Operand.tmp 15), type := 28, pos := "law.go:99", after := #[], guard := none }) (v := .agg (kc k)) rfl (by decide +kernel) (by decide +kernel) (by decide +kernel) (fun _ _ _ h => absurd h.1 (by simp)) (yieldsIf28 (yieldsIf_load_mid (by rfl) 28 (.tmp 15) rfl xb 0 rfl (kc k).toList _ l1 Try.underlying28 rfl (by rw [info28]; simp [kc_size]))) hS ?_
  simp only [Act.put, List.setIfInBounds_toArray, List.set_cons_zero, List.set_cons_succ]
  refine wpAnyH_ready (rs := [2]) (by decide +kernel) (by simp) ?_
  refine AllReadyH.cons (o := { dst := some 81, op := Op.call { callee := Callee.value (Operand.func 18), args := #[Operand.tmp 79, Operand.tmp 80], argTypes := #[33, 28] }, type := 3, pos := "law.go:99", after := #[{ on := 0, ground := Ground.data }, { on := 1, ground := Ground.data }], guard := none }) rfl (fun K hK => ?_) AllReadyH.nil
  first | rw [if_pos (by rfl)] | skip
  go_simp
  refine (count_any hA hk).mono ?_
  rintro e Y1 ⟨rfl, f1⟩
  have hA := hA.fr f1 (by simp) (by simp) (by simp)
  have hR := hR.fr0 f1
  have hS := hS.trans f1
  refine hK.out _ _ hS (fun _ => ?_)
  clear hK K
  try simp only [Act.put, List.setIfInBounds_toArray, List.set_cons_zero, List.set_cons_succ]
  refine wpAnyH_ready (rs := [5]) (by decide +kernel) (by simp) ?_
  refine AllReadyH.cons (o := { dst := some 84, op := Op.call { callee := Callee.value (Operand.func 19), args := #[Operand.tmp 82, Operand.tmp 83], argTypes := #[35, 28] }, type := 3, pos := "law.go:99", after := #[{ on := 3, ground := Ground.data }, { on := 4, ground := Ground.data }, { on := 2, ground := Ground.chain }], guard := none }) rfl (fun K hK => ?_) AllReadyH.nil
  first | rw [if_pos (by rfl)] | skip
  go_simp
  refine (rcount_any hR hok hk).mono ?_
  rintro e Y1 ⟨rfl, f1⟩
  have hA := hA.fr f1 (by simp) (by simp) (by simp)
  have hR := hR.fr0 f1
  have hS := hS.trans f1
  refine hK.out _ _ hS (fun _ => ?_)
  clear hK K
  try simp only [Act.put, List.setIfInBounds_toArray, List.set_cons_zero, List.set_cons_succ]
  refine wpAnyH_take (i := 6) (oi := { dst := some 85, op := Op.binOp BinOp.neq 3 (Operand.tmp 81) (Operand.tmp 84) 3, type := 4, pos := "law.go:99", after := #[{ on := 2, ground := Ground.data }, { on := 5, ground := Ground.data }], guard := none }) (v := .bool false) rfl (by decide +kernel) (by decide +kernel) (by decide +kernel) (fun _ _ _ h => absurd h.1 (by simp)) (Or.inl ⟨by rfl, fun wq hSq => by first | rfl | go_simp⟩) hS ?_
  simp only [Act.put, List.setIfInBounds_toArray, List.set_cons_zero, List.set_cons_succ]
  refine wpAnyH_done (by decide +kernel) ?_ _
  exact ⟨rfl, h _ _ _ _ _ _ _ hS⟩
set_option maxRecDepth 100000 in
set_option maxHeartbeats 4000000 in
theorem reg5c {X : World} {a ma ca rb B : Nat} {S : Bk} (hA : BA X a ma ca S) (hR : RBk B X rb S) (hok : Ok S) (hO : S.O.length ≤ 100000) (hw : ∀ x ∈ S.O, kw x)
    {Q : Exit → Act → World → Prop} {u0 u1 u2 u3 u4 u7 u8 u9 u10 u11 u12 u13 u14 u15 u16 u17 u18 u19 u20 u21 u22 u23 u24 u25 u26 u27 u28 u29 u30 u31 u32 u33 u34 u35 u36 u37 u38 u39 u40 u41 u42 u43 u44 u45 u46 u47 u48 u49 u50 u51 u52 u53 u54 u55 u56 u57 u58 u59 u60 u61 u62 u63 u64 u65 u66 u67 u68 u69 u70 u71 u72 u73 u74 u75 u76 u77 u78 u79 u80 u81 u82 u83 u84 u85 u86 u87 u88 u89 u90 u91 u92 u93 u94 : Value}
    (h : ∀ n87 n88 n89 n90 n91 n92 n93 n94 X2, Fr [] X X2 → Q .normal { tmps := #[u0, u1, u2, u3, .bool true, .pointer (some ⟨a, 0, none⟩), .pointer (some ⟨rb, 0, none⟩), u7, u8, u9, u10, u11, u12, u13, u14, u15, u16, u17, u18, u19, u20, u21, u22, u23, u24, u25, u26, u27, u28, u29, u30, u31, u32, u33, u34, u35, u36, u37, u38, u39, u40, u41, u42, u43, u44, u45, u46, u47, u48, u49, u50, u51, u52, u53, u54, u55, u56, u57, u58, u59, u60, u61, u62, u63, u64, u65, u66, u67, u68, u69, u70, u71, u72, u73, u74, u75, u76, u77, u78, u79, u80, u81, u82, u83, u84, u85, u86, n87, n88, n89, n90, n91, n92, n93, n94], defers := [] } X2) :
    (Code.region 32 #[{ dst := some 87, op := Op.move (Operand.tmp 5), type := 33, pos := "law.go:103", after := #[], guard := none }, { dst := some 88, op := Op.call { callee := Callee.value (Operand.func 22), args := #[Operand.tmp 87], argTypes := #[33] }, type := 3, pos := "law.go:103", after := #[{ on := 0, ground := Ground.data }], guard := none }, { dst := some 89, op := Op.move (Operand.tmp 6), type := 35, pos := "law.go:103", after := #[], guard := none }, { dst := some 90, op := Op.nilCheck (Operand.tmp 89), type := 0, pos := "law.go:103", after := #[{ on := 2, ground := Ground.data }], guard := none }, { dst := some 91, op := Op.fieldAddr 46 (Operand.tmp 90) 0, type := 0, pos := "law.go:103", after := #[{ on := 3, ground := Ground.data }], guard := none }, { dst := some 92, op := Op.load 43 (Operand.tmp 91), type := 43, pos := "law.go:103", after := #[{ on := 4, ground := Ground.data }], guard := none }, { dst := some 93, op := Op.call { callee := Callee.builtin Builtin.len, args := #[Operand.tmp 92], argTypes := #[43] }, type := 3, pos := "law.go:103", after := #[{ on := 5, ground := Ground.data }], guard := none }, { dst := some 94, op := Op.binOp BinOp.eql 3 (Operand.tmp 88) (Operand.tmp 93) 3, type := 4, pos := "law.go:103", after := #[{ on := 1, ground := Ground.data }, { on := 6, ground := Ground.data }], guard := none }, { dst := some 4, op := Op.assign (Operand.tmp 94), type := 4, pos := "law.go:103", after := #[{ on := 7, ground := Ground.data }, { on := 1, ground := Ground.chain }, { on := 0, ground := Ground.phase }, { on := 1, ground := Ground.phase }, { on := 2, ground := Ground.phase }, { on := 3, ground := Ground.phase }, { on := 4, ground := Ground.phase }, { on := 5, ground := Ground.phase }, { on := 6, ground := Ground.phase }, { on := 7, ground := Ground.phase }], guard := none }] true).wp Try.prog Q { tmps := #[u0, u1, u2, u3, u4, .pointer (some ⟨a, 0, none⟩), .pointer (some ⟨rb, 0, none⟩), u7, u8, u9, u10, u11, u12, u13, u14, u15, u16, u17, u18, u19, u20, u21, u22, u23, u24, u25, u26, u27, u28, u29, u30, u31, u32, u33, u34, u35, u36, u37, u38, u39, u40, u41, u42, u43, u44, u45, u46, u47, u48, u49, u50, u51, u52, u53, u54, u55, u56, u57, u58, u59, u60, u61, u62, u63, u64, u65, u66, u67, u68, u69, u70, u71, u72, u73, u74, u75, u76, u77, u78, u79, u80, u81, u82, u83, u84, u85, u86, u87, u88, u89, u90, u91, u92, u93, u94], defers := [] } X := by
  obtain ⟨fa, fc, N, hN, c0⟩ : ∃ fa fc N, N = S.L.length ∧ ∀ w', Fr [] X w' → w'.cell? ⟨rb, 0, none⟩ = some (.slice fa N fc) := by
    obtain ⟨sv, so, hb, hr, _⟩ := hR.ex
    obtain ⟨fa, fc, rfl, _⟩ := own_slice hr
    exact ⟨fa, fc, _, rfl, fun w' f => f.cell1 (at_cells hb 0 rfl) (by simp)⟩
  refine wp_mono (Q := Plain (fun a w => Q .normal a w)) ?_ (fun e a w h => by obtain ⟨rfl, h2⟩ := h; exact h2)
  refine wp_region_held (S := fun w' => Fr [] X w') (by kernel_rfl) ?_
  change wpAnyH _ _ _ _ _ _ _ _ X.drew
  have F0 : Fr [] X X.drew := Fr.drew (Fr.refl [] X)
  have hA : BA X.drew a ma ca S := hA.drew
  have hR : RBk B X.drew rb S := hR.fr0 F0
  have hS : Fr [] X X.drew := F0
  generalize X.drew = Y at *
  refine wpAnyH_take (i := 0) (oi := { dst := some 87, op := Op.move (Operand.tmp 5), type := 33, pos := "law.go:103", after := #[], guard := none }) (v := .pointer (some ⟨a, 0, none⟩)) rfl (by decide +kernel) (by decide +kernel) (by decide +kernel) (fun _ _ _ h => absurd h.1 (by simp)) (Or.inl ⟨by rfl, fun wq hSq => by first | rfl | go_simp⟩) hS ?_
  simp only [Act.put, List.setIfInBounds_toArray, List.set_cons_zero, List.set_cons_succ]
  refine wpAnyH_take (i := 2) (oi := { dst := some 89, op := Op.move (Operand.tmp 6), type := 35, pos := "law.go:103", after := #[], guard := none }) (v := .pointer (some ⟨rb, 0, none⟩)) rfl (by decide +kernel) (by decide +kernel) (by decide +kernel) (fun _ _ _ h => absurd h.1 (by simp)) (Or.inl ⟨by rfl, fun wq hSq => by first | rfl | go_simp⟩) hS ?_
  simp only [Act.put, List.setIfInBounds_toArray, List.set_cons_zero, List.set_cons_succ]
  refine wpAnyH_take (i := 3) (oi := { dst := some 90, op := Op.nilCheck (Operand.tmp 89), type := 0, pos := "law.go:103", after := #[{ on := 2, ground := Ground.data }], guard := none }) (v := .pointer (some ⟨rb, 0, none⟩)) rfl (by decide +kernel) (by decide +kernel) (by decide +kernel) (fun _ _ _ h => absurd h.1 (by simp)) (Or.inl ⟨by rfl, fun wq hSq => by first | rfl | go_simp⟩) hS ?_
  simp only [Act.put, List.setIfInBounds_toArray, List.set_cons_zero, List.set_cons_succ]
  refine wpAnyH_take (i := 4) (oi := { dst := some 91, op := Op.fieldAddr 46 (Operand.tmp 90) 0, type := 0, pos := "law.go:103", after := #[{ on := 3, ground := Ground.data }], guard := none }) (v := .pointer (some ⟨rb, 0, none⟩)) rfl (by decide +kernel) (by decide +kernel) (by decide +kernel) (fun _ _ _ h => absurd h.1 (by simp)) (Or.inl ⟨by rfl, fun wq hSq => by first | rfl | go_simp⟩) hS ?_
  simp only [Act.put, List.setIfInBounds_toArray, List.set_cons_zero, List.set_cons_succ]
  refine wpAnyH_take (i := 5) (oi := { dst := some 92, op := Op.load 43 (Operand.tmp 91), type := 43, pos := "law.go:103", after := #[{ on := 4, ground := Ground.data }], guard := none }) (v := .slice fa N fc) rfl (by decide +kernel) (by decide +kernel) (by decide +kernel) (fun _ _ _ h => absurd h.1 (by simp)) (Or.inl ⟨by rfl, fun wq hSq => by (have q := c0 wq hSq; go_simp)⟩) hS ?_
  simp only [Act.put, List.setIfInBounds_toArray, List.set_cons_zero, List.set_cons_succ]
  refine wpAnyH_take (i := 6) (oi := { dst := some 93, op := Op.call { callee := Callee.builtin Builtin.len, args := #[Operand.tmp 92], argTypes := #[43] }, type := 3, pos := "law.go:103", after := #[{ on := 5, ground := Ground.data }], guard := none }) (v := .int .i64 (N : Nat)) rfl (by decide +kernel) (by decide +kernel) (by decide +kernel) (fun _ _ _ h => absurd h.1 (by simp)) (Or.inl ⟨by rfl, fun wq hSq => by first | rfl | go_simp⟩) hS ?_
  simp only [Act.put, List.setIfInBounds_toArray, List.set_cons_zero, List.set_cons_succ]
  refine wpAnyH_ready (rs := [1]) (by decide +kernel) (by simp) ?_
  refine AllReadyH.cons (o := { dst := some 88, op := Op.call { callee := Callee.value (Operand.func 22), args := #[Operand.tmp 87], argTypes := #[33] }, type := 3, pos := "law.go:103", after := #[{ on := 0, ground := Ground.data }], guard := none }) rfl (fun K hK => ?_) AllReadyH.nil
  first | rw [if_pos (by rfl)] | skip
  go_simp
  refine (len_any hA).mono ?_
  rintro e Y1 ⟨rfl, hY1⟩
  rw [hY1]
  clear hY1
  refine hK.out _ _ hS (fun _ => ?_)
  clear hK K
  try simp only [Act.put, List.setIfInBounds_toArray, List.set_cons_zero, List.set_cons_succ]
  refine wpAnyH_take (i := 7) (oi := { dst := some 94, op := Op.binOp BinOp.eql 3 (Operand.tmp 88) (Operand.tmp 93) 3, type := 4, pos := "law.go:103", after := #[{ on := 1, ground := Ground.data }, { on := 6, ground := Ground.data }], guard := none }) (v := .bool true) rfl (by decide +kernel) (by decide +kernel) (by decide +kernel) (fun _ _ _ h => absurd h.1 (by simp)) (Or.inl ⟨by rfl, fun wq hSq => by first | rfl | go_simp⟩) hS ?_
  simp only [Act.put, List.setIfInBounds_toArray, List.set_cons_zero, List.set_cons_succ]
  refine wpAnyH_take (i := 8) (oi := { dst := some 4, op := Op.assign (Operand.tmp 94), type := 4, pos := "law.go:103", after := #[{ on := 7, ground := Ground.data }, { on := 1, ground := Ground.chain }, { on := 0, ground := Ground.phase }, { on := 1, ground := Ground.phase }, { on := 2, ground := Ground.phase }, { on := 3, ground := Ground.phase }, { on := 4, ground := Ground.phase }, { on := 5, ground := Ground.phase }, { on := 6, ground := Ground.phase }, { on := 7, ground := Ground.phase }], guard := none }) (v := .bool true) rfl (by decide +kernel) (by decide +kernel) (by decide +kernel) (fun _ _ _ h => absurd h.1 (by simp)) (Or.inl ⟨by rfl, fun wq hSq => by first | rfl | go_simp⟩) hS ?_
  simp only [Act.put, List.setIfInBounds_toArray, List.set_cons_zero, List.set_cons_succ]
  refine wpAnyH_done (by decide +kernel) ?_ _
  exact ⟨rfl, h _ _ _ _ _ _ _ _ _ hS⟩
end Go.Proofs.Ytjeddgjndpdhoaa
