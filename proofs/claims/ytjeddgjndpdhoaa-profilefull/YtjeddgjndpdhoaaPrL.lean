/-
  Room is made for a key: the region that deletes the least; conditions: the book lies as told.
-/
import Derived.Test.YtjeddgjndpdhoaaPrK
namespace Go.Proofs.Ytjeddgjndpdhoaa
open Go.RowKit
set_option linter.unusedVariables false
set_option linter.unusedSimpArgs false
theorem wp_delete {o : Oper} {a : Act} {w w' : World} {K : Act → World → Prop} {Q : Exit → Act → World → Prop} (m x : Operand) (hop : o.op = Op.call { callee := Callee.builtin Builtin.delete, args := #[m, x], argTypes := #[51, 28] }) {mv key : Value} (hm : a.eval m = mv) (hx : a.eval x = key) (hrun : (Builtin.delete_ #[51, 28] o.type #[mv, key]).run Try.prog w = .ok (.tuple #[]) w') (h : K (a.put o.dst (.tuple #[])) w') : o.wp Try.prog a w K Q := by
  unfold Oper.wp
  simp [execOp, hop, resolve, invoke, builtin, hm, hx, hrun, Result.andThen]
  exact h

set_option maxRecDepth 100000 in
set_option maxHeartbeats 4000000 in
theorem reg26 {X : World} {b mb : Nat} {L : List Rw} {k1 : Ky} (c1 : ∀ w', Fr [mb] X w' → w'.cell? ⟨b, 1, none⟩ = some (.map (some mb))) (hcm : ∀ w', Fr [] X w' → CM w' mb L) (hn : Nd L) (hk1 : kw k1)
    (C27 : ∀ w', Fr [] X w' → Calls Try.prog 27 #[.map (some mb), .func (.func 28) #[] #[]] w' fun e w'' => e = .returned (.agg (kc k1)) ∧ Fr [] w' w'')
    {Q : Exit → Act → World → Prop} {u1 u2 u3 u4 u5 u6 u7 u8 u9 u10 u11 u12 u13 u14 u15 u16 u17 u18 u19 u20 u21 u22 u23 u24 u25 u26 u27 u28 u29 : Value}
    (h : ∀ X2, Fr [mb] X X2 → CM X2 mb (delL L k1) → Q .normal { tmps := #[.pointer (some ⟨b, 0, none⟩), u1, u2, u3, u4, u5, u6, u7, u8, .pointer (some ⟨b, 0, none⟩), .pointer (some ⟨b, 0, none⟩), .pointer (some ⟨b, 1, none⟩), .map (some mb), .pointer (some ⟨b, 0, none⟩), .pointer (some ⟨b, 0, none⟩), .pointer (some ⟨b, 1, none⟩), .map (some mb), .agg (kc k1), u18, u19, u20, u21, u22, u23, u24, u25, u26, u27, u28, u29], defers := [] } X2) :
    (Code.region 2 #[{ dst := some 9, op := Op.move (Operand.tmp 0), type := 33, pos := "profile.go:75", after := #[], guard := none }, { dst := some 10, op := Op.nilCheck (Operand.tmp 9), type := 0, pos := "profile.go:75", after := #[{ on := 0, ground := Ground.data }], guard := none }, { dst := some 11, op := Op.fieldAddr 54 (Operand.tmp 10) 1, type := 0, pos := "profile.go:75", after := #[{ on := 1, ground := Ground.data }], guard := none }, { dst := some 12, op := Op.load 51 (Operand.tmp 11), type := 51, pos := "profile.go:75", after := #[{ on := 2, ground := Ground.data }], guard := none }, { dst := some 13, op := Op.move (Operand.tmp 0), type := 33, pos := "profile.go:75", after := #[], guard := none }, { dst := some 14, op := Op.nilCheck (Operand.tmp 13), type := 0, pos := "profile.go:75", after := #[{ on := 4, ground := Ground.data }], guard := none }, { dst := some 15, op := Op.fieldAddr 54 (Operand.tmp 14) 1, type := 0, pos := "profile.go:75", after := #[{ on := 5, ground := Ground.data }], guard := none }, { dst := some 16, op := Op.load 51 (Operand.tmp 15), type := 51, pos := "profile.go:75", after := #[{ on := 6, ground := Ground.data }], guard := none }, { dst := some 17, op := Op.call { callee := Callee.value (Operand.func 27), args := #[Operand.tmp 16, Operand.func 28], argTypes := #[51, 67] }, type := 28, pos := "profile.go:75", after := #[{ on := 7, ground := Ground.data }], guard := none }, { dst := none, op := Op.call { callee := Callee.builtin Builtin.delete, args := #[Operand.tmp 12, Operand.tmp 17], argTypes := #[51, 28] }, type := 0, pos := "profile.go:75", after := #[{ on := 3, ground := Ground.data }, { on := 8, ground := Ground.data }, { on := 8, ground := Ground.chain }], guard := none }] true).wp Try.prog Q { tmps := #[.pointer (some ⟨b, 0, none⟩), u1, u2, u3, u4, u5, u6, u7, u8, u9, u10, u11, u12, u13, u14, u15, u16, u17, u18, u19, u20, u21, u22, u23, u24, u25, u26, u27, u28, u29], defers := [] } X := by
  refine wp_mono (Q := Plain (fun a w => Q .normal a w)) ?_ (fun e a w h => by obtain ⟨rfl, h2⟩ := h; exact h2)
  refine wp_region_held (S := fun w' => Fr [mb] X w') (by kernel_rfl) ?_
  change wpAnyH _ _ _ _ _ _ _ _ X.drew
  have hE : Fr [] X X.drew := Fr.drew (Fr.refl _ X)
  have hS : Fr [mb] X X.drew := Fr.drew (Fr.refl _ X)
  generalize X.drew = Y at *
  refine wpAnyH_take (i := 0) (oi := { dst := some 9, op := Op.move (Operand.tmp 0), type := 33, pos := "profile.go:75", after := #[], guard := none }) (v := .pointer (some ⟨b, 0, none⟩)) rfl (by decide +kernel) (by decide +kernel) (by decide +kernel) (fun _ _ _ h => absurd h.1 (by simp)) (Or.inl ⟨by rfl, fun wq hSq => by first | rfl | go_simp⟩) hS ?_
  simp only [Act.put, List.setIfInBounds_toArray, List.set_cons_zero, List.set_cons_succ]
  refine wpAnyH_take (i := 1) (oi := { dst := some 10, op := Op.nilCheck (Operand.tmp 9), type := 0, pos := "profile.go:75", after := #[{ on := 0, ground := Ground.data }], guard := none }) (v := .pointer (some ⟨b, 0, none⟩)) rfl (by decide +kernel) (by decide +kernel) (by decide +kernel) (fun _ _ _ h => absurd h.1 (by simp)) (Or.inl ⟨by rfl, fun wq hSq => by first | rfl | go_simp⟩) hS ?_
  simp only [Act.put, List.setIfInBounds_toArray, List.set_cons_zero, List.set_cons_succ]
  refine wpAnyH_take (i := 2) (oi := { dst := some 11, op := Op.fieldAddr 54 (Operand.tmp 10) 1, type := 0, pos := "profile.go:75", after := #[{ on := 1, ground := Ground.data }], guard := none }) (v := .pointer (some ⟨b, 1, none⟩)) rfl (by decide +kernel) (by decide +kernel) (by decide +kernel) (fun _ _ _ h => absurd h.1 (by simp)) (Or.inl ⟨by rfl, fun wq hSq => by first | rfl | go_simp⟩) hS ?_
  simp only [Act.put, List.setIfInBounds_toArray, List.set_cons_zero, List.set_cons_succ]
  refine wpAnyH_take (i := 3) (oi := { dst := some 12, op := Op.load 51 (Operand.tmp 11), type := 51, pos := "profile.go:75", after := #[{ on := 2, ground := Ground.data }], guard := none }) (v := .map (some mb)) rfl (by decide +kernel) (by decide +kernel) (by decide +kernel) (fun _ _ _ h => absurd h.1 (by simp)) (Or.inl ⟨by rfl, fun wq hSq => by (have q := c1 wq hSq; go_simp)⟩) hS ?_
  simp only [Act.put, List.setIfInBounds_toArray, List.set_cons_zero, List.set_cons_succ]
  refine wpAnyH_take (i := 4) (oi := { dst := some 13, op := Op.move (Operand.tmp 0), type := 33, pos := "profile.go:75", after := #[], guard := none }) (v := .pointer (some ⟨b, 0, none⟩)) rfl (by decide +kernel) (by decide +kernel) (by decide +kernel) (fun _ _ _ h => absurd h.1 (by simp)) (Or.inl ⟨by rfl, fun wq hSq => by first | rfl | go_simp⟩) hS ?_
  simp only [Act.put, List.setIfInBounds_toArray, List.set_cons_zero, List.set_cons_succ]
  refine wpAnyH_take (i := 5) (oi := { dst := some 14, op := Op.nilCheck (Operand.tmp 13), type := 0, pos := "profile.go:75", after := #[{ on := 4, ground := Ground.data }], guard := none }) (v := .pointer (some ⟨b, 0, none⟩)) rfl (by decide +kernel) (by decide +kernel) (by decide +kernel) (fun _ _ _ h => absurd h.1 (by simp)) (Or.inl ⟨by rfl, fun wq hSq => by first | rfl | go_simp⟩) hS ?_
  simp only [Act.put, List.setIfInBounds_toArray, List.set_cons_zero, List.set_cons_succ]
  refine wpAnyH_take (i := 6) (oi := { dst := some 15, op := Op.fieldAddr 54 (Operand.tmp 14) 1, type := 0, pos := "profile.go:75", after := #[{ on := 5, ground := Ground.data }], guard := none }) (v := .pointer (some ⟨b, 1, none⟩)) rfl (by decide +kernel) (by decide +kernel) (by decide +kernel) (fun _ _ _ h => absurd h.1 (by simp)) (Or.inl ⟨by rfl, fun wq hSq => by first | rfl | go_simp⟩) hS ?_
  simp only [Act.put, List.setIfInBounds_toArray, List.set_cons_zero, List.set_cons_succ]
  refine wpAnyH_take (i := 7) (oi := { dst := some 16, op := Op.load 51 (Operand.tmp 15), type := 51, pos := "profile.go:75", after := #[{ on := 6, ground := Ground.data }], guard := none }) (v := .map (some mb)) rfl (by decide +kernel) (by decide +kernel) (by decide +kernel) (fun _ _ _ h => absurd h.1 (by simp)) (Or.inl ⟨by rfl, fun wq hSq => by (have q := c1 wq hSq; go_simp)⟩) hS ?_
  simp only [Act.put, List.setIfInBounds_toArray, List.set_cons_zero, List.set_cons_succ]
  refine wpAnyH_ready (rs := [8]) (by decide +kernel) (by simp) ?_
  refine AllReadyH.cons (o := { dst := some 17, op := Op.call { callee := Callee.value (Operand.func 27), args := #[Operand.tmp 16, Operand.func 28], argTypes := #[51, 67] }, type := 28, pos := "profile.go:75", after := #[{ on := 7, ground := Ground.data }], guard := none }) rfl (fun K hK => ?_) AllReadyH.nil
  go_simp
  refine (C27 _ hE).mono ?_
  rintro e Y1 ⟨rfl, f1⟩
  have hE := hE.trans f1
  have hS : Fr [mb] X Y1 := hE.sub (by simp)
  refine hK.out _ _ hS (fun _ => ?_)
  clear hK K
  try simp only [Act.put, List.setIfInBounds_toArray, List.set_cons_zero, List.set_cons_succ]
  refine wpAnyH_ready (rs := [9]) (by decide +kernel) (by simp) ?_
  refine AllReadyH.cons (o := { dst := none, op := Op.call { callee := Callee.builtin Builtin.delete, args := #[Operand.tmp 12, Operand.tmp 17], argTypes := #[51, 28] }, type := 0, pos := "profile.go:75", after := #[{ on := 3, ground := Ground.data }, { on := 8, ground := Ground.data }, { on := 8, ground := Ground.chain }], guard := none }) rfl (fun K hK => ?_) AllReadyH.nil
  rw [if_pos (by rfl)]
  obtain ⟨Y2, r2, cm2, f2, z2⟩ := (hcm Y1 hE).drop hn hk1 0
  refine wp_delete (.tmp 12) (.tmp 17) rfl rfl rfl r2 ?_
  have hS2 : Fr [mb] X Y2 := hS.trans f2
  refine hK.out _ _ hS2 (fun _ => ?_)
  clear hK K
  try simp only [Act.put, List.setIfInBounds_toArray, List.set_cons_zero, List.set_cons_succ]
  refine wpAnyH_done (by decide +kernel) ?_ _
  exact ⟨rfl, h _ hS2 cm2⟩
end Go.Proofs.Ytjeddgjndpdhoaa
