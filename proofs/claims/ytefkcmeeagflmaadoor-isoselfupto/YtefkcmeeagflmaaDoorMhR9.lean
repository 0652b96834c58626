/-
  The last statement of the law on a heap and itself, its region that draws its order, by hand; conditions: the three calls' contracts, the values lie as told.
-/
import Derived.Test.YtefkcmeeagflmaaDoorMgDNND
import Derived.Deep.RegionHeld3
namespace Go.Proofs.YtefkcmeeagflmaaDoor
open Go.RowKit
set_option linter.unusedVariables false
set_option linter.unusedSimpArgs false

set_option maxRecDepth 100000 in
set_option maxHeartbeats 4000000 in
theorem reg9 {Q : Exit → Act → World → Prop} {w : World} {a1 : Option Addr} {n c1 k2 k3 kb : Nat} {p q : Int} {xs : List (Int × Int)}
    (CS : ∀ w', Fr [] w w' → Calls Tryd.prog 12 #[.pointer (some ⟨k2, 0, none⟩), .slice a1 n c1, .pointer (some ⟨k2, 0, none⟩), .slice a1 n c1] w' fun e w'' => e = .returned (.bool true) ∧ Fr [] w' w'')
    (CT : ∀ w', Fr [] w w' → Calls Tryd.prog 12 #[.pointer (some ⟨k2, 0, none⟩), .slice a1 n c1, .pointer (some ⟨k3, 0, none⟩), .slice a1 n c1] w' fun e w'' => e = .returned (.bool true) ∧ Fr [] w' w'')
    (CU : ∀ w' (av : Value) (B : Nat), Fr [] w w' → w'.ownsRow B 45 2 av (n + 1) (flat (xs ++ [(p, q)])) → Calls Tryd.prog 12 #[.pointer (some ⟨k2, 0, none⟩), .slice a1 n c1, .pointer (some ⟨k3, 0, none⟩), av] w' fun e w'' => e = .returned (.bool false) ∧ Fr [] w' w'')
    (b0 : ∀ w' : World, Fr [] w w' → w'.cell? ⟨kb, 0, none⟩ = some (.int .i64 p)) (b1 : ∀ w' : World, Fr [] w w' → w'.cell? ⟨kb, 1, none⟩ = some (.int .i64 q))
    (hnews : ∀ w', Fr [] w w' → ∀ ad, a1 = some ad → ∀ j u, (flat xs)[j]? = some u → w'.cell? (ad.add j) = some u) (hfl : (flat xs).length = n * 2) (hone : ∀ u ∈ flat xs, u.oneCell' = true) (hnone : a1 = none → n = 0 ∧ c1 = 0) (hn : n ≤ 2000000)
    {s0 s2 s3 s4 s6 s8 s10 s11 s12 s13 s14 s15 s16 s17 s18 s19 s20 s21 s22 s23 s24 s25 s26 s27 s28 s29 s30 s31 s32 s33 s34 s35 s36 s37 s38 s39 s40 s41 s42 s43 s44 s45 s46 s47 s48 s49 s50 s51 s52 s53 s54 s55 s56 : Value}
    (h : ∀ (t33 t34 t35 t36 t37 t38 t39 t40 t41 t42 t43 t44 t45 t46 t47 t48 t49 t50 t51 t52 t53 t54 t55 t56 : Value) (w' : World), Fr [] w w' → Q .normal { tmps := #[s0, .slice a1 n c1, s2, s3, s4, .pointer (some ⟨kb, 0, none⟩), .bool true, .pointer (some ⟨k2, 0, none⟩), s8, .pointer (some ⟨k3, 0, none⟩), s10, s11, s12, s13, s14, s15, s16, s17, s18, s19, s20, s21, s22, s23, s24, s25, s26, s27, s28, s29, s30, s31, s32, t33, t34, t35, t36, t37, t38, t39, t40, t41, t42, t43, t44, t45, t46, t47, t48, t49, t50, t51, t52, t53, t54, t55, t56], defers := [] } w') :
    (Code.region 9 #[{ dst := some 33, op := Op.move (Operand.tmp 7), type := 26, pos := "law.go:187", after := #[], guard := none }, { dst := some 34, op := Op.move (Operand.tmp 1), type := 23, pos := "law.go:187", after := #[], guard := none }, { dst := some 35, op := Op.move (Operand.tmp 7), type := 26, pos := "law.go:187", after := #[], guard := none }, { dst := some 36, op := Op.move (Operand.tmp 1), type := 23, pos := "law.go:187", after := #[], guard := none }, { dst := some 37, op := Op.call { callee := Callee.value (Operand.func 12), args := #[Operand.tmp 33, Operand.tmp 34, Operand.tmp 35, Operand.tmp 36], argTypes := #[26, 23, 26, 23] }, type := 4, pos := "law.go:187", after := #[{ on := 0, ground := Ground.data }, { on := 1, ground := Ground.data }, { on := 2, ground := Ground.data }, { on := 3, ground := Ground.data }], guard := none }, { dst := some 38, op := Op.move (Operand.tmp 37), type := 4, pos := "law.go:187", after := #[{ on := 4, ground := Ground.data }, { on := 4, ground := Ground.chain }], guard := none }, { dst := some 39, op := Op.move (Operand.tmp 7), type := 26, pos := "law.go:187", after := #[{ on := 5, ground := Ground.guard }], guard := some (5, true) }, { dst := some 40, op := Op.move (Operand.tmp 1), type := 23, pos := "law.go:187", after := #[{ on := 5, ground := Ground.guard }], guard := some (5, true) }, { dst := some 41, op := Op.move (Operand.tmp 9), type := 26, pos := "law.go:187", after := #[{ on := 5, ground := Ground.guard }], guard := some (5, true) }, { dst := some 42, op := Op.move (Operand.tmp 1), type := 23, pos := "law.go:187", after := #[{ on := 5, ground := Ground.guard }], guard := some (5, true) }, { dst := some 43, op := Op.call { callee := Callee.value (Operand.func 12), args := #[Operand.tmp 39, Operand.tmp 40, Operand.tmp 41, Operand.tmp 42], argTypes := #[26, 23, 26, 23] }, type := 4, pos := "law.go:187", after := #[{ on := 6, ground := Ground.data }, { on := 7, ground := Ground.data }, { on := 8, ground := Ground.data }, { on := 9, ground := Ground.data }, { on := 5, ground := Ground.chain }, { on := 5, ground := Ground.guard }], guard := some (5, true) }, { dst := some 44, op := Op.pick (Operand.tmp 38) (Operand.tmp 43) (Operand.const (Value.bool false)), type := 4, pos := "law.go:187", after := #[{ on := 5, ground := Ground.data }, { on := 10, ground := Ground.data }], guard := none }, { dst := some 45, op := Op.move (Operand.tmp 44), type := 4, pos := "law.go:187", after := #[{ on := 11, ground := Ground.data }, { on := 10, ground := Ground.chain }], guard := none }, { dst := some 46, op := Op.move (Operand.tmp 7), type := 26, pos := "law.go:187", after := #[{ on := 12, ground := Ground.guard }], guard := some (12, true) }, { dst := some 47, op := Op.move (Operand.tmp 1), type := 23, pos := "law.go:187", after := #[{ on := 12, ground := Ground.guard }], guard := some (12, true) }, { dst := some 48, op := Op.move (Operand.tmp 9), type := 26, pos := "law.go:187", after := #[{ on := 12, ground := Ground.guard }], guard := some (12, true) }, { dst := some 49, op := Op.move (Operand.tmp 1), type := 23, pos := "law.go:187", after := #[{ on := 12, ground := Ground.guard }], guard := some (12, true) }, { dst := some 50, op := Op.call { callee := Callee.builtin Builtin.append, args := #[Operand.const (Value.slice none 0 0), Operand.tmp 49], argTypes := #[23, 23] }, type := 23, pos := "law.go:187", after := #[{ on := 16, ground := Ground.data }, { on := 12, ground := Ground.chain }, { on := 12, ground := Ground.guard }], guard := some (12, true) }, { dst := some 51, op := Op.load 45 (Operand.tmp 5), type := 45, pos := "law.go:187", after := #[{ on := 12, ground := Ground.guard }], guard := some (12, true) }, { dst := some 52, op := Op.buildSlice 23 1 #[(0, Operand.tmp 51)], type := 23, pos := "law.go:187", after := #[{ on := 18, ground := Ground.data }, { on := 12, ground := Ground.guard }], guard := some (12, true) }, { dst := some 53, op := Op.call { callee := Callee.builtin Builtin.append, args := #[Operand.tmp 50, Operand.tmp 52], argTypes := #[23, 23] }, type := 23, pos := "law.go:187", after := #[{ on := 17, ground := Ground.data }, { on := 19, ground := Ground.data }, { on := 17, ground := Ground.chain }, { on := 12, ground := Ground.guard }], guard := some (12, true) }, { dst := some 54, op := Op.call { callee := Callee.value (Operand.func 12), args := #[Operand.tmp 46, Operand.tmp 47, Operand.tmp 48, Operand.tmp 53], argTypes := #[26, 23, 26, 23] }, type := 4, pos := "law.go:187", after := #[{ on := 13, ground := Ground.data }, { on := 14, ground := Ground.data }, { on := 15, ground := Ground.data }, { on := 20, ground := Ground.data }, { on := 20, ground := Ground.chain }, { on := 12, ground := Ground.guard }], guard := some (12, true) }, { dst := some 55, op := Op.unOp UnOp.not 4 (Operand.tmp 54), type := 4, pos := "law.go:187", after := #[{ on := 21, ground := Ground.data }, { on := 12, ground := Ground.guard }], guard := some (12, true) }, { dst := some 56, op := Op.pick (Operand.tmp 45) (Operand.tmp 55) (Operand.const (Value.bool false)), type := 4, pos := "law.go:187", after := #[{ on := 12, ground := Ground.data }, { on := 22, ground := Ground.data }], guard := none }, { dst := some 6, op := Op.assign (Operand.tmp 56), type := 4, pos := "law.go:187", after := #[{ on := 23, ground := Ground.data }, { on := 21, ground := Ground.chain }, { on := 0, ground := Ground.phase }, { on := 1, ground := Ground.phase }, { on := 2, ground := Ground.phase }, { on := 3, ground := Ground.phase }, { on := 4, ground := Ground.phase }, { on := 5, ground := Ground.phase }, { on := 6, ground := Ground.phase }, { on := 7, ground := Ground.phase }, { on := 8, ground := Ground.phase }, { on := 9, ground := Ground.phase }, { on := 10, ground := Ground.phase }, { on := 11, ground := Ground.phase }, { on := 12, ground := Ground.phase }, { on := 13, ground := Ground.phase }, { on := 14, ground := Ground.phase }, { on := 15, ground := Ground.phase }, { on := 16, ground := Ground.phase }, { on := 17, ground := Ground.phase }, { on := 18, ground := Ground.phase }, { on := 19, ground := Ground.phase }, { on := 20, ground := Ground.phase }, { on := 21, ground := Ground.phase }, { on := 22, ground := Ground.phase }, { on := 23, ground := Ground.phase }], guard := none }] true).wp Tryd.prog Q { tmps := #[s0, .slice a1 n c1, s2, s3, s4, .pointer (some ⟨kb, 0, none⟩), s6, .pointer (some ⟨k2, 0, none⟩), s8, .pointer (some ⟨k3, 0, none⟩), s10, s11, s12, s13, s14, s15, s16, s17, s18, s19, s20, s21, s22, s23, s24, s25, s26, s27, s28, s29, s30, s31, s32, s33, s34, s35, s36, s37, s38, s39, s40, s41, s42, s43, s44, s45, s46, s47, s48, s49, s50, s51, s52, s53, s54, s55, s56], defers := [] } w := by
  obtain ⟨i45, hi, hz, hs, hby⟩ := info_parts info45
  have HA : ∀ (w' : World) (o : Obj), Fr [] w w' → Fr [] w (w'.alloc o) := fun w' o h => h.alloc o
  have R0 : Fr [] w w.drew := Fr.drew (Fr.refl _ _)
  have hm1 : 0 + n ≤ maxLen := by have : maxLen = 9223372036854775807 := rfl; omega
  have hm2 : (0 + n) * 16 ≤ 140737488355328 := by omega
  have hm3 : n + 1 ≤ maxLen := by have : maxLen = 9223372036854775807 := rfl; omega
  have hm4 : (n + 1) * 16 ≤ 140737488355328 := by omega
  refine wp_region_noPanic ?_
  refine wp_region_any (by kernel_rfl) ?_
  change wpAny _ _ _ _ _ _ _ (World.drew _)
  refine wpAny_take (i := 0) (oi := { dst := some 33, op := Op.move (Operand.tmp 7), type := 26, pos := "law.go:187", after := #[], guard := none }) (v := .pointer (some ⟨k2, 0, none⟩)) rfl (by decide +kernel) (by decide +kernel) (by decide +kernel) (fun _ _ _ h => h) (Or.inl ⟨by kernel_rfl, fun w => by first | rfl | go_simp⟩) ?_
  simp only [Act.put, List.setIfInBounds_toArray, List.set_cons_zero, List.set_cons_succ]
  refine wpAny_take (i := 1) (oi := { dst := some 34, op := Op.move (Operand.tmp 1), type := 23, pos := "law.go:187", after := #[], guard := none }) (v := .slice a1 n c1) rfl (by decide +kernel) (by decide +kernel) (by decide +kernel) (fun _ _ _ h => h) (Or.inl ⟨by kernel_rfl, fun w => by first | rfl | go_simp⟩) ?_
  simp only [Act.put, List.setIfInBounds_toArray, List.set_cons_zero, List.set_cons_succ]
  refine wpAny_take (i := 2) (oi := { dst := some 35, op := Op.move (Operand.tmp 7), type := 26, pos := "law.go:187", after := #[], guard := none }) (v := .pointer (some ⟨k2, 0, none⟩)) rfl (by decide +kernel) (by decide +kernel) (by decide +kernel) (fun _ _ _ h => h) (Or.inl ⟨by kernel_rfl, fun w => by first | rfl | go_simp⟩) ?_
  simp only [Act.put, List.setIfInBounds_toArray, List.set_cons_zero, List.set_cons_succ]
  refine wpAny_take (i := 3) (oi := { dst := some 36, op := Op.move (Operand.tmp 1), type := 23, pos := "law.go:187", after := #[], guard := none }) (v := .slice a1 n c1) rfl (by decide +kernel) (by decide +kernel) (by decide +kernel) (fun _ _ _ h => h) (Or.inl ⟨by kernel_rfl, fun w => by first | rfl | go_simp⟩) ?_
  simp only [Act.put, List.setIfInBounds_toArray, List.set_cons_zero, List.set_cons_succ]
  refine wpAny_ready (rs := [4]) (by decide +kernel) (by simp) ?_
  refine AllReady.cons (o := { dst := some 37, op := Op.call { callee := Callee.value (Operand.func 12), args := #[Operand.tmp 33, Operand.tmp 34, Operand.tmp 35, Operand.tmp 36], argTypes := #[26, 23, 26, 23] }, type := 4, pos := "law.go:187", after := #[{ on := 0, ground := Ground.data }, { on := 1, ground := Ground.data }, { on := 2, ground := Ground.data }, { on := 3, ground := Ground.data }], guard := none }) rfl (fun K hK => ?_) AllReady.nil
  go_simp
  refine (CS _ R0).mono ?_
  rintro e w4 ⟨rfl, f4⟩
  have F4 := Fr.trans R0 f4
  refine hK _ _ ?_
  clear hK K
  try simp only [Act.put, List.setIfInBounds_toArray, List.set_cons_zero, List.set_cons_succ]
  refine wpAny_take (i := 5) (oi := { dst := some 38, op := Op.move (Operand.tmp 37), type := 4, pos := "law.go:187", after := #[{ on := 4, ground := Ground.data }, { on := 4, ground := Ground.chain }], guard := none }) (v := .bool true) rfl (by decide +kernel) (by decide +kernel) (by decide +kernel) (fun _ _ _ h => h) (Or.inl ⟨by kernel_rfl, fun w => by first | rfl | go_simp⟩) ?_
  simp only [Act.put, List.setIfInBounds_toArray, List.set_cons_zero, List.set_cons_succ]
  refine wpAny_take (i := 6) (oi := { dst := some 39, op := Op.move (Operand.tmp 7), type := 26, pos := "law.go:187", after := #[{ on := 5, ground := Ground.guard }], guard := some (5, true) }) (v := .pointer (some ⟨k2, 0, none⟩)) rfl (by decide +kernel) (by decide +kernel) (by decide +kernel) (fun _ _ _ h => h) (Or.inl ⟨by kernel_rfl, fun w => by first | rfl | go_simp⟩) ?_
  simp only [Act.put, List.setIfInBounds_toArray, List.set_cons_zero, List.set_cons_succ]
  refine wpAny_take (i := 7) (oi := { dst := some 40, op := Op.move (Operand.tmp 1), type := 23, pos := "law.go:187", after := #[{ on := 5, ground := Ground.guard }], guard := some (5, true) }) (v := .slice a1 n c1) rfl (by decide +kernel) (by decide +kernel) (by decide +kernel) (fun _ _ _ h => h) (Or.inl ⟨by kernel_rfl, fun w => by first | rfl | go_simp⟩) ?_
  simp only [Act.put, List.setIfInBounds_toArray, List.set_cons_zero, List.set_cons_succ]
  refine wpAny_take (i := 8) (oi := { dst := some 41, op := Op.move (Operand.tmp 9), type := 26, pos := "law.go:187", after := #[{ on := 5, ground := Ground.guard }], guard := some (5, true) }) (v := .pointer (some ⟨k3, 0, none⟩)) rfl (by decide +kernel) (by decide +kernel) (by decide +kernel) (fun _ _ _ h => h) (Or.inl ⟨by kernel_rfl, fun w => by first | rfl | go_simp⟩) ?_
  simp only [Act.put, List.setIfInBounds_toArray, List.set_cons_zero, List.set_cons_succ]
  refine wpAny_take (i := 9) (oi := { dst := some 42, op := Op.move (Operand.tmp 1), type := 23, pos := "law.go:187", after := #[{ on := 5, ground := Ground.guard }], guard := some (5, true) }) (v := .slice a1 n c1) rfl (by decide +kernel) (by decide +kernel) (by decide +kernel) (fun _ _ _ h => h) (Or.inl ⟨by kernel_rfl, fun w => by first | rfl | go_simp⟩) ?_
  simp only [Act.put, List.setIfInBounds_toArray, List.set_cons_zero, List.set_cons_succ]
  refine wpAny_ready (rs := [10]) (by decide +kernel) (by simp) ?_
  refine AllReady.cons (o := { dst := some 43, op := Op.call { callee := Callee.value (Operand.func 12), args := #[Operand.tmp 39, Operand.tmp 40, Operand.tmp 41, Operand.tmp 42], argTypes := #[26, 23, 26, 23] }, type := 4, pos := "law.go:187", after := #[{ on := 6, ground := Ground.data }, { on := 7, ground := Ground.data }, { on := 8, ground := Ground.data }, { on := 9, ground := Ground.data }, { on := 5, ground := Ground.chain }, { on := 5, ground := Ground.guard }], guard := some (5, true) }) rfl (fun K hK => ?_) AllReady.nil
  go_simp
  refine (CT _ F4).mono ?_
  rintro e w10 ⟨rfl, f10⟩
  have F10 := Fr.trans F4 f10
  refine hK _ _ ?_
  clear hK K
  try simp only [Act.put, List.setIfInBounds_toArray, List.set_cons_zero, List.set_cons_succ]
  refine wpAny_take (i := 11) (oi := { dst := some 44, op := Op.pick (Operand.tmp 38) (Operand.tmp 43) (Operand.const (Value.bool false)), type := 4, pos := "law.go:187", after := #[{ on := 5, ground := Ground.data }, { on := 10, ground := Ground.data }], guard := none }) (v := .bool true) rfl (by decide +kernel) (by decide +kernel) (by decide +kernel) (fun _ _ _ h => h) (Or.inl ⟨by kernel_rfl, fun w => by first | rfl | go_simp⟩) ?_
  simp only [Act.put, List.setIfInBounds_toArray, List.set_cons_zero, List.set_cons_succ]
  refine wpAny_take (i := 12) (oi := { dst := some 45, op := Op.move (Operand.tmp 44), type := 4, pos := "law.go:187", after := #[{ on := 11, ground := Ground.data }, { on := 10, ground := Ground.chain }], guard := none }) (v := .bool true) rfl (by decide +kernel) (by decide +kernel) (by decide +kernel) (fun _ _ _ h => h) (Or.inl ⟨by kernel_rfl, fun w => by first | rfl | go_simp⟩) ?_
  simp only [Act.put, List.setIfInBounds_toArray, List.set_cons_zero, List.set_cons_succ]
  refine wpAny_take (i := 13) (oi := { dst := some 46, op := Op.move (Operand.tmp 7), type := 26, pos := "law.go:187", after := #[{ on := 12, ground := Ground.guard }], guard := some (12, true) }) (v := .pointer (some ⟨k2, 0, none⟩)) rfl (by decide +kernel) (by decide +kernel) (by decide +kernel) (fun _ _ _ h => h) (Or.inl ⟨by kernel_rfl, fun w => by first | rfl | go_simp⟩) ?_
  simp only [Act.put, List.setIfInBounds_toArray, List.set_cons_zero, List.set_cons_succ]
  refine wpAny_take (i := 14) (oi := { dst := some 47, op := Op.move (Operand.tmp 1), type := 23, pos := "law.go:187", after := #[{ on := 12, ground := Ground.guard }], guard := some (12, true) }) (v := .slice a1 n c1) rfl (by decide +kernel) (by decide +kernel) (by decide +kernel) (fun _ _ _ h => h) (Or.inl ⟨by kernel_rfl, fun w => by first | rfl | go_simp⟩) ?_
  simp only [Act.put, List.setIfInBounds_toArray, List.set_cons_zero, List.set_cons_succ]
  refine wpAny_take (i := 15) (oi := { dst := some 48, op := Op.move (Operand.tmp 9), type := 26, pos := "law.go:187", after := #[{ on := 12, ground := Ground.guard }], guard := some (12, true) }) (v := .pointer (some ⟨k3, 0, none⟩)) rfl (by decide +kernel) (by decide +kernel) (by decide +kernel) (fun _ _ _ h => h) (Or.inl ⟨by kernel_rfl, fun w => by first | rfl | go_simp⟩) ?_
  simp only [Act.put, List.setIfInBounds_toArray, List.set_cons_zero, List.set_cons_succ]
  refine wpAny_take (i := 16) (oi := { dst := some 49, op := Op.move (Operand.tmp 1), type := 23, pos := "law.go:187", after := #[{ on := 12, ground := Ground.guard }], guard := some (12, true) }) (v := .slice a1 n c1) rfl (by decide +kernel) (by decide +kernel) (by decide +kernel) (fun _ _ _ h => h) (Or.inl ⟨by kernel_rfl, fun w => by first | rfl | go_simp⟩) ?_
  simp only [Act.put, List.setIfInBounds_toArray, List.set_cons_zero, List.set_cons_succ]
  refine wpAny_ready (rs := [17, 18]) (by decide +kernel) (by simp) ?_
  refine AllReady.cons (o := { dst := some 50, op := Op.call { callee := Callee.builtin Builtin.append, args := #[Operand.const (Value.slice none 0 0), Operand.tmp 49], argTypes := #[23, 23] }, type := 23, pos := "law.go:187", after := #[{ on := 16, ground := Ground.data }, { on := 12, ground := Ground.chain }, { on := 12, ground := Ground.guard }], guard := some (12, true) }) rfl (fun K hK => ?_) ?_
  · skip
    have i45' := hi
    refine step_append_w (by kernel_rfl) (.const (.slice none 0 0)) (.tmp 49) 23 rfl w.heap.size 45 i45 _ 2 16 under23 hi hz hs hby rfl (by decide) (.slice none 0 0) 0 [] rfl (World.ownsRow_nil _ _ _ _) a1 n c1 (flat xs) rfl hfl hnone (hnews _ F10) hone hm1 hm2 (Fr.size F10) ?_
    intro v7 w17 ho7 hg7 hk7
    have F17 : Fr [] w w17 := Fr.grown F10 hg7 (fun k e => by simp [Value.ownBlock] at e)
    simp only [Nat.zero_add, List.nil_append] at ho7
    obtain ⟨a7, c7, rfl, _⟩ := own_slice ho7
    refine hK _ _ ?_
    clear hK K
    try simp only [Act.put, List.setIfInBounds_toArray, List.set_cons_zero, List.set_cons_succ]
    refine wpAny_ready (rs := [18]) (by decide +kernel) (by simp) ?_
    refine AllReady.cons (o := { dst := some 51, op := Op.load 45 (Operand.tmp 5), type := 45, pos := "law.go:187", after := #[{ on := 12, ground := Ground.guard }], guard := some (12, true) }) rfl (fun K hK => ?_) AllReady.nil
    have c0 := b0 _ F17
    have c1' := b1 _ F17
    go_simp
    refine hK _ _ ?_
    clear hK K
    try simp only [Act.put, List.setIfInBounds_toArray, List.set_cons_zero, List.set_cons_succ]
    refine wpAny_ready (rs := [19]) (by decide +kernel) (by simp) ?_
    refine AllReady.cons (o := { dst := some 52, op := Op.buildSlice 23 1 #[(0, Operand.tmp 51)], type := 23, pos := "law.go:187", after := #[{ on := 18, ground := Ground.data }, { on := 12, ground := Ground.guard }], guard := some (12, true) }) rfl (fun K hK => ?_) AllReady.nil
    go_simp
    refine hK _ _ ?_
    obtain ⟨kn, hkn⟩ : ∃ k, k = w17.heap.size := ⟨_, rfl⟩
    have F19 := HA _ (.cells #[.int .i64 p, .int .i64 q] 45) F17
    have N19 := cell_two_new w17 (.int .i64 p) (.int .i64 q) 45
    have ho7 := ho7.alloc (.cells #[.int .i64 p, .int .i64 q] 45)
    rw [← hkn] at N19 ⊢
    generalize w17.alloc (.cells #[.int .i64 p, .int .i64 q] 45) = w19 at *
    clear hK K
    try simp only [Act.put, List.setIfInBounds_toArray, List.set_cons_zero, List.set_cons_succ]
    refine wpAny_ready (rs := [20]) (by decide +kernel) (by simp) ?_
    refine AllReady.cons (o := { dst := some 53, op := Op.call { callee := Callee.builtin Builtin.append, args := #[Operand.tmp 50, Operand.tmp 52], argTypes := #[23, 23] }, type := 23, pos := "law.go:187", after := #[{ on := 17, ground := Ground.data }, { on := 19, ground := Ground.data }, { on := 17, ground := Ground.chain }, { on := 12, ground := Ground.guard }], guard := some (12, true) }) rfl (fun K hK => ?_) AllReady.nil
    refine step_append_w (by kernel_rfl) (.tmp 50) (.tmp 52) 23 rfl w.heap.size 45 i45 _ 2 16 under23 hi hz hs hby rfl (by decide) (.slice a7 n c7) n (flat xs) rfl (ho7) (some ⟨kn, 0, none⟩) 1 1 [.int .i64 p, .int .i64 q] rfl rfl (by simp) (fun ad had => by cases had; exact N19) (by simp [Value.oneCell']) hm3 hm4 (Fr.size F19) ?_
    intro v8 w20 ho8 hg8 hk8
    have F20 : Fr [] w w20 := Fr.grown F19 hg8 (fun k e => .inr (ho7.lt k e).1)
    have ho9 : w20.ownsRow w.heap.size 45 2 v8 (n + 1) (flat (xs ++ [(p, q)])) := (by rw [flat_app]; exact ho8)
    refine hK _ _ ?_
    clear hK K
    try simp only [Act.put, List.setIfInBounds_toArray, List.set_cons_zero, List.set_cons_succ]
    refine wpAny_ready (rs := [21]) (by decide +kernel) (by simp) ?_
    refine AllReady.cons (o := { dst := some 54, op := Op.call { callee := Callee.value (Operand.func 12), args := #[Operand.tmp 46, Operand.tmp 47, Operand.tmp 48, Operand.tmp 53], argTypes := #[26, 23, 26, 23] }, type := 4, pos := "law.go:187", after := #[{ on := 13, ground := Ground.data }, { on := 14, ground := Ground.data }, { on := 15, ground := Ground.data }, { on := 20, ground := Ground.data }, { on := 20, ground := Ground.chain }, { on := 12, ground := Ground.guard }], guard := some (12, true) }) rfl (fun K hK => ?_) AllReady.nil
    go_simp
    refine (CU _ _ _ F20 ho9).mono ?_
    rintro e w21 ⟨rfl, f21⟩
    have F21 := Fr.trans F20 f21
    refine hK _ _ ?_
    clear hK K
    try simp only [Act.put, List.setIfInBounds_toArray, List.set_cons_zero, List.set_cons_succ]
    refine wpAny_take (i := 22) (oi := { dst := some 55, op := Op.unOp UnOp.not 4 (Operand.tmp 54), type := 4, pos := "law.go:187", after := #[{ on := 21, ground := Ground.data }, { on := 12, ground := Ground.guard }], guard := some (12, true) }) (v := .bool true) rfl (by decide +kernel) (by decide +kernel) (by decide +kernel) (fun _ _ _ h => h) (Or.inl ⟨by kernel_rfl, fun w => by first | rfl | go_simp⟩) ?_
    simp only [Act.put, List.setIfInBounds_toArray, List.set_cons_zero, List.set_cons_succ]
    refine wpAny_take (i := 23) (oi := { dst := some 56, op := Op.pick (Operand.tmp 45) (Operand.tmp 55) (Operand.const (Value.bool false)), type := 4, pos := "law.go:187", after := #[{ on := 12, ground := Ground.data }, { on := 22, ground := Ground.data }], guard := none }) (v := .bool true) rfl (by decide +kernel) (by decide +kernel) (by decide +kernel) (fun _ _ _ h => h) (Or.inl ⟨by kernel_rfl, fun w => by first | rfl | go_simp⟩) ?_
    simp only [Act.put, List.setIfInBounds_toArray, List.set_cons_zero, List.set_cons_succ]
    refine wpAny_take (i := 24) (oi := { dst := some 6, op := Op.assign (Operand.tmp 56), type := 4, pos := "law.go:187", after := #[{ on := 23, ground := Ground.data }, { on := 21, ground := Ground.chain }, { on := 0, ground := Ground.phase }, { on := 1, ground := Ground.phase }, { on := 2, ground := Ground.phase }, { on := 3, ground := Ground.phase }, { on := 4, ground := Ground.phase }, { on := 5, ground := Ground.phase }, { on := 6, ground := Ground.phase }, { on := 7, ground := Ground.phase }, { on := 8, ground := Ground.phase }, { on := 9, ground := Ground.phase }, { on := 10, ground := Ground.phase }, { on := 11, ground := Ground.phase }, { on := 12, ground := Ground.phase }, { on := 13, ground := Ground.phase }, { on := 14, ground := Ground.phase }, { on := 15, ground := Ground.phase }, { on := 16, ground := Ground.phase }, { on := 17, ground := Ground.phase }, { on := 18, ground := Ground.phase }, { on := 19, ground := Ground.phase }, { on := 20, ground := Ground.phase }, { on := 21, ground := Ground.phase }, { on := 22, ground := Ground.phase }, { on := 23, ground := Ground.phase }], guard := none }) (v := .bool true) rfl (by decide +kernel) (by decide +kernel) (by decide +kernel) (fun _ _ _ h => h) (Or.inl ⟨by kernel_rfl, fun w => by first | rfl | go_simp⟩) ?_
    simp only [Act.put, List.setIfInBounds_toArray, List.set_cons_zero, List.set_cons_succ]
    refine wpAny_done (by decide +kernel) ?_ _
    exact NoPanic.normal (h _ _ _ _ _ _ _ _ _ _ _ _ _ _ _ _ _ _ _ _ _ _ _ _ _ F21)
  refine AllReady.cons (o := { dst := some 51, op := Op.load 45 (Operand.tmp 5), type := 45, pos := "law.go:187", after := #[{ on := 12, ground := Ground.guard }], guard := some (12, true) }) rfl (fun K hK => ?_) AllReady.nil
  have c0 := b0 _ F10
  have c1' := b1 _ F10
  go_simp
  refine hK _ _ ?_
  clear hK K
  try simp only [Act.put, List.setIfInBounds_toArray, List.set_cons_zero, List.set_cons_succ]
  refine wpAny_ready (rs := [17, 19]) (by decide +kernel) (by simp) ?_
  refine AllReady.cons (o := { dst := some 50, op := Op.call { callee := Callee.builtin Builtin.append, args := #[Operand.const (Value.slice none 0 0), Operand.tmp 49], argTypes := #[23, 23] }, type := 23, pos := "law.go:187", after := #[{ on := 16, ground := Ground.data }, { on := 12, ground := Ground.chain }, { on := 12, ground := Ground.guard }], guard := some (12, true) }) rfl (fun K hK => ?_) ?_
  · skip
    have i45' := hi
    refine step_append_w (by kernel_rfl) (.const (.slice none 0 0)) (.tmp 49) 23 rfl w.heap.size 45 i45 _ 2 16 under23 hi hz hs hby rfl (by decide) (.slice none 0 0) 0 [] rfl (World.ownsRow_nil _ _ _ _) a1 n c1 (flat xs) rfl hfl hnone (hnews _ F10) hone hm1 hm2 (Fr.size F10) ?_
    intro v7 w17 ho7 hg7 hk7
    have F17 : Fr [] w w17 := Fr.grown F10 hg7 (fun k e => by simp [Value.ownBlock] at e)
    simp only [Nat.zero_add, List.nil_append] at ho7
    obtain ⟨a7, c7, rfl, _⟩ := own_slice ho7
    refine hK _ _ ?_
    clear hK K
    try simp only [Act.put, List.setIfInBounds_toArray, List.set_cons_zero, List.set_cons_succ]
    refine wpAny_ready (rs := [19]) (by decide +kernel) (by simp) ?_
    refine AllReady.cons (o := { dst := some 52, op := Op.buildSlice 23 1 #[(0, Operand.tmp 51)], type := 23, pos := "law.go:187", after := #[{ on := 18, ground := Ground.data }, { on := 12, ground := Ground.guard }], guard := some (12, true) }) rfl (fun K hK => ?_) AllReady.nil
    go_simp
    refine hK _ _ ?_
    obtain ⟨kn, hkn⟩ : ∃ k, k = w17.heap.size := ⟨_, rfl⟩
    have F19 := HA _ (.cells #[.int .i64 p, .int .i64 q] 45) F17
    have N19 := cell_two_new w17 (.int .i64 p) (.int .i64 q) 45
    have ho7 := ho7.alloc (.cells #[.int .i64 p, .int .i64 q] 45)
    rw [← hkn] at N19 ⊢
    generalize w17.alloc (.cells #[.int .i64 p, .int .i64 q] 45) = w19 at *
    clear hK K
    try simp only [Act.put, List.setIfInBounds_toArray, List.set_cons_zero, List.set_cons_succ]
    refine wpAny_ready (rs := [20]) (by decide +kernel) (by simp) ?_
    refine AllReady.cons (o := { dst := some 53, op := Op.call { callee := Callee.builtin Builtin.append, args := #[Operand.tmp 50, Operand.tmp 52], argTypes := #[23, 23] }, type := 23, pos := "law.go:187", after := #[{ on := 17, ground := Ground.data }, { on := 19, ground := Ground.data }, { on := 17, ground := Ground.chain }, { on := 12, ground := Ground.guard }], guard := some (12, true) }) rfl (fun K hK => ?_) AllReady.nil
    refine step_append_w (by kernel_rfl) (.tmp 50) (.tmp 52) 23 rfl w.heap.size 45 i45 _ 2 16 under23 hi hz hs hby rfl (by decide) (.slice a7 n c7) n (flat xs) rfl (ho7) (some ⟨kn, 0, none⟩) 1 1 [.int .i64 p, .int .i64 q] rfl rfl (by simp) (fun ad had => by cases had; exact N19) (by simp [Value.oneCell']) hm3 hm4 (Fr.size F19) ?_
    intro v8 w20 ho8 hg8 hk8
    have F20 : Fr [] w w20 := Fr.grown F19 hg8 (fun k e => .inr (ho7.lt k e).1)
    have ho9 : w20.ownsRow w.heap.size 45 2 v8 (n + 1) (flat (xs ++ [(p, q)])) := (by rw [flat_app]; exact ho8)
    refine hK _ _ ?_
    clear hK K
    try simp only [Act.put, List.setIfInBounds_toArray, List.set_cons_zero, List.set_cons_succ]
    refine wpAny_ready (rs := [21]) (by decide +kernel) (by simp) ?_
    refine AllReady.cons (o := { dst := some 54, op := Op.call { callee := Callee.value (Operand.func 12), args := #[Operand.tmp 46, Operand.tmp 47, Operand.tmp 48, Operand.tmp 53], argTypes := #[26, 23, 26, 23] }, type := 4, pos := "law.go:187", after := #[{ on := 13, ground := Ground.data }, { on := 14, ground := Ground.data }, { on := 15, ground := Ground.data }, { on := 20, ground := Ground.data }, { on := 20, ground := Ground.chain }, { on := 12, ground := Ground.guard }], guard := some (12, true) }) rfl (fun K hK => ?_) AllReady.nil
    go_simp
    refine (CU _ _ _ F20 ho9).mono ?_
    rintro e w21 ⟨rfl, f21⟩
    have F21 := Fr.trans F20 f21
    refine hK _ _ ?_
    clear hK K
    try simp only [Act.put, List.setIfInBounds_toArray, List.set_cons_zero, List.set_cons_succ]
    refine wpAny_take (i := 22) (oi := { dst := some 55, op := Op.unOp UnOp.not 4 (Operand.tmp 54), type := 4, pos := "law.go:187", after := #[{ on := 21, ground := Ground.data }, { on := 12, ground := Ground.guard }], guard := some (12, true) }) (v := .bool true) rfl (by decide +kernel) (by decide +kernel) (by decide +kernel) (fun _ _ _ h => h) (Or.inl ⟨by kernel_rfl, fun w => by first | rfl | go_simp⟩) ?_
    simp only [Act.put, List.setIfInBounds_toArray, List.set_cons_zero, List.set_cons_succ]
    refine wpAny_take (i := 23) (oi := { dst := some 56, op := Op.pick (Operand.tmp 45) (Operand.tmp 55) (Operand.const (Value.bool false)), type := 4, pos := "law.go:187", after := #[{ on := 12, ground := Ground.data }, { on := 22, ground := Ground.data }], guard := none }) (v := .bool true) rfl (by decide +kernel) (by decide +kernel) (by decide +kernel) (fun _ _ _ h => h) (Or.inl ⟨by kernel_rfl, fun w => by first | rfl | go_simp⟩) ?_
    simp only [Act.put, List.setIfInBounds_toArray, List.set_cons_zero, List.set_cons_succ]
    refine wpAny_take (i := 24) (oi := { dst := some 6, op := Op.assign (Operand.tmp 56), type := 4, pos := "law.go:187", after := #[{ on := 23, ground := Ground.data }, { on := 21, ground := Ground.chain }, { on := 0, ground := Ground.phase }, { on := 1, ground := Ground.phase }, { on := 2, ground := Ground.phase }, { on := 3, ground := Ground.phase }, { on := 4, ground := Ground.phase }, { on := 5, ground := Ground.phase }, { on := 6, ground := Ground.phase }, { on := 7, ground := Ground.phase }, { on := 8, ground := Ground.phase }, { on := 9, ground := Ground.phase }, { on := 10, ground := Ground.phase }, { on := 11, ground := Ground.phase }, { on := 12, ground := Ground.phase }, { on := 13, ground := Ground.phase }, { on := 14, ground := Ground.phase }, { on := 15, ground := Ground.phase }, { on := 16, ground := Ground.phase }, { on := 17, ground := Ground.phase }, { on := 18, ground := Ground.phase }, { on := 19, ground := Ground.phase }, { on := 20, ground := Ground.phase }, { on := 21, ground := Ground.phase }, { on := 22, ground := Ground.phase }, { on := 23, ground := Ground.phase }], guard := none }) (v := .bool true) rfl (by decide +kernel) (by decide +kernel) (by decide +kernel) (fun _ _ _ h => h) (Or.inl ⟨by kernel_rfl, fun w => by first | rfl | go_simp⟩) ?_
    simp only [Act.put, List.setIfInBounds_toArray, List.set_cons_zero, List.set_cons_succ]
    refine wpAny_done (by decide +kernel) ?_ _
    exact NoPanic.normal (h _ _ _ _ _ _ _ _ _ _ _ _ _ _ _ _ _ _ _ _ _ _ _ _ _ F21)
  refine AllReady.cons (o := { dst := some 52, op := Op.buildSlice 23 1 #[(0, Operand.tmp 51)], type := 23, pos := "law.go:187", after := #[{ on := 18, ground := Ground.data }, { on := 12, ground := Ground.guard }], guard := some (12, true) }) rfl (fun K hK => ?_) AllReady.nil
  go_simp
  refine hK _ _ ?_
  obtain ⟨kn, hkn⟩ : ∃ k, k = w10.heap.size := ⟨_, rfl⟩
  have F19 := HA _ (.cells #[.int .i64 p, .int .i64 q] 45) F10
  have N19 := cell_two_new w10 (.int .i64 p) (.int .i64 q) 45
  rw [← hkn] at N19 ⊢
  generalize w10.alloc (.cells #[.int .i64 p, .int .i64 q] 45) = w19 at *
  clear hK K
  try simp only [Act.put, List.setIfInBounds_toArray, List.set_cons_zero, List.set_cons_succ]
  refine wpAny_ready (rs := [17]) (by decide +kernel) (by simp) ?_
  refine AllReady.cons (o := { dst := some 50, op := Op.call { callee := Callee.builtin Builtin.append, args := #[Operand.const (Value.slice none 0 0), Operand.tmp 49], argTypes := #[23, 23] }, type := 23, pos := "law.go:187", after := #[{ on := 16, ground := Ground.data }, { on := 12, ground := Ground.chain }, { on := 12, ground := Ground.guard }], guard := some (12, true) }) rfl (fun K hK => ?_) AllReady.nil
  have i45' := hi
  refine step_append_w (by kernel_rfl) (.const (.slice none 0 0)) (.tmp 49) 23 rfl w.heap.size 45 i45 _ 2 16 under23 hi hz hs hby rfl (by decide) (.slice none 0 0) 0 [] rfl (World.ownsRow_nil _ _ _ _) a1 n c1 (flat xs) rfl hfl hnone (hnews _ F19) hone hm1 hm2 (Fr.size F19) ?_
  intro v7 w17 ho7 hg7 hk7
  have F17 : Fr [] w w17 := Fr.grown F19 hg7 (fun k e => by simp [Value.ownBlock] at e)
  have N17 : ∀ j u, [Value.int .i64 p, .int .i64 q][j]? = some u → w17.cell? ((⟨kn, 0, none⟩ : Addr).add j) = some u := fun j u hu => (Fr.grown (Fr.refl [] _) hg7 (fun k e => by simp [Value.ownBlock] at e)).cell1 (N19 j u hu) (by simp)
  simp only [Nat.zero_add, List.nil_append] at ho7
  obtain ⟨a7, c7, rfl, _⟩ := own_slice ho7
  refine hK _ _ ?_
  clear hK K
  try simp only [Act.put, List.setIfInBounds_toArray, List.set_cons_zero, List.set_cons_succ]
  refine wpAny_ready (rs := [20]) (by decide +kernel) (by simp) ?_
  refine AllReady.cons (o := { dst := some 53, op := Op.call { callee := Callee.builtin Builtin.append, args := #[Operand.tmp 50, Operand.tmp 52], argTypes := #[23, 23] }, type := 23, pos := "law.go:187", after := #[{ on := 17, ground := Ground.data }, { on := 19, ground := Ground.data }, { on := 17, ground := Ground.chain }, { on := 12, ground := Ground.guard }], guard := some (12, true) }) rfl (fun K hK => ?_) AllReady.nil
  refine step_append_w (by kernel_rfl) (.tmp 50) (.tmp 52) 23 rfl w.heap.size 45 i45 _ 2 16 under23 hi hz hs hby rfl (by decide) (.slice a7 n c7) n (flat xs) rfl (ho7) (some ⟨kn, 0, none⟩) 1 1 [.int .i64 p, .int .i64 q] rfl rfl (by simp) (fun ad had => by cases had; exact N17) (by simp [Value.oneCell']) hm3 hm4 (Fr.size F17) ?_
  intro v8 w20 ho8 hg8 hk8
  have F20 : Fr [] w w20 := Fr.grown F17 hg8 (fun k e => .inr (ho7.lt k e).1)
  have ho9 : w20.ownsRow w.heap.size 45 2 v8 (n + 1) (flat (xs ++ [(p, q)])) := (by rw [flat_app]; exact ho8)
  refine hK _ _ ?_
  clear hK K
  try simp only [Act.put, List.setIfInBounds_toArray, List.set_cons_zero, List.set_cons_succ]
  refine wpAny_ready (rs := [21]) (by decide +kernel) (by simp) ?_
  refine AllReady.cons (o := { dst := some 54, op := Op.call { callee := Callee.value (Operand.func 12), args := #[Operand.tmp 46, Operand.tmp 47, Operand.tmp 48, Operand.tmp 53], argTypes := #[26, 23, 26, 23] }, type := 4, pos := "law.go:187", after := #[{ on := 13, ground := Ground.data }, { on := 14, ground := Ground.data }, { on := 15, ground := Ground.data }, { on := 20, ground := Ground.data }, { on := 20, ground := Ground.chain }, { on := 12, ground := Ground.guard }], guard := some (12, true) }) rfl (fun K hK => ?_) AllReady.nil
  go_simp
  refine (CU _ _ _ F20 ho9).mono ?_
  rintro e w21 ⟨rfl, f21⟩
  have F21 := Fr.trans F20 f21
  refine hK _ _ ?_
  clear hK K
  try simp only [Act.put, List.setIfInBounds_toArray, List.set_cons_zero, List.set_cons_succ]
  refine wpAny_take (i := 22) (oi := { dst := some 55, op := Op.unOp UnOp.not 4 (Operand.tmp 54), type := 4, pos := "law.go:187", after := #[{ on := 21, ground := Ground.data }, { on := 12, ground := Ground.guard }], guard := some (12, true) }) (v := .bool true) rfl (by decide +kernel) (by decide +kernel) (by decide +kernel) (fun _ _ _ h => h) (Or.inl ⟨by kernel_rfl, fun w => by first | rfl | go_simp⟩) ?_
  simp only [Act.put, List.setIfInBounds_toArray, List.set_cons_zero, List.set_cons_succ]
  refine wpAny_take (i := 23) (oi := { dst := some 56, op := Op.pick (Operand.tmp 45) (Operand.tmp 55) (Operand.const (Value.bool false)), type := 4, pos := "law.go:187", after := #[{ on := 12, ground := Ground.data }, { on := 22, ground := Ground.data }], guard := none }) (v := .bool true) rfl (by decide +kernel) (by decide +kernel) (by decide +kernel) (fun _ _ _ h => h) (Or.inl ⟨by kernel_rfl, fun w => by first | rfl | go_simp⟩) ?_
  simp only [Act.put, List.setIfInBounds_toArray, List.set_cons_zero, List.set_cons_succ]
  refine wpAny_take (i := 24) (oi := { dst := some 6, op := Op.assign (Operand.tmp 56), type := 4, pos := "law.go:187", after := #[{ on := 23, ground := Ground.data }, { on := 21, ground := Ground.chain }, { on := 0, ground := Ground.phase }, { on := 1, ground := Ground.phase }, { on := 2, ground := Ground.phase }, { on := 3, ground := Ground.phase }, { on := 4, ground := Ground.phase }, { on := 5, ground := Ground.phase }, { on := 6, ground := Ground.phase }, { on := 7, ground := Ground.phase }, { on := 8, ground := Ground.phase }, { on := 9, ground := Ground.phase }, { on := 10, ground := Ground.phase }, { on := 11, ground := Ground.phase }, { on := 12, ground := Ground.phase }, { on := 13, ground := Ground.phase }, { on := 14, ground := Ground.phase }, { on := 15, ground := Ground.phase }, { on := 16, ground := Ground.phase }, { on := 17, ground := Ground.phase }, { on := 18, ground := Ground.phase }, { on := 19, ground := Ground.phase }, { on := 20, ground := Ground.phase }, { on := 21, ground := Ground.phase }, { on := 22, ground := Ground.phase }, { on := 23, ground := Ground.phase }], guard := none }) (v := .bool true) rfl (by decide +kernel) (by decide +kernel) (by decide +kernel) (fun _ _ _ h => h) (Or.inl ⟨by kernel_rfl, fun w => by first | rfl | go_simp⟩) ?_
  simp only [Act.put, List.setIfInBounds_toArray, List.set_cons_zero, List.set_cons_succ]
  refine wpAny_done (by decide +kernel) ?_ _
  exact NoPanic.normal (h _ _ _ _ _ _ _ _ _ _ _ _ _ _ _ _ _ _ _ _ _ _ _ _ _ F21)
end Go.Proofs.YtefkcmeeagflmaaDoor
