/-
  Texts of the proof, in their order: MbR, MbB, MbA; conditions: as each theorem says.
-/
import Derived.Test.YtkjkpkmmojchiaaGreatDoorMgAE
import Derived.Deep.RegionHeld3
namespace Go.Proofs.YtkjkpkmmojchiaaGreatDoor
open Go.RowKit
set_option linter.unusedVariables false
set_option linter.unusedSimpArgs false

def PlainR (K : Act → World → Prop) : Exit → Act → World → Prop := fun e a w => e = .normal ∧ K a w
set_option maxRecDepth 100000 in
set_option maxHeartbeats 4000000 in
theorem new_reg {X : World} {F : List Fu} {im inp : List Int} {fa ia na : Option Addr} {fc ic nc b4 b7 : Nat} {mn mg fuel depth cells dm fm : Int} (HDM : Hid ((if 1000 < (if depth < 1 then 1 else depth) then 1000 else (if depth < 1 then 1 else depth)) = dm)) (HFM : Hid ((if fuel < 0 then 0 else fuel) = fm))
    (m0 : ∀ w', Fr [] X w' → w'.cell? ⟨b4, 0, none⟩ = some (.slice fa F.length fc)) (m1 : ∀ w', Fr [] X w' → w'.cell? ⟨b4, 1, none⟩ = some (.int .i64 mn)) (m2 : ∀ w', Fr [] X w' → w'.cell? ⟨b4, 2, none⟩ = some (.int .i64 mg))
    (l0 : ∀ w', Fr [] X w' → w'.cell? ⟨b7, 0, none⟩ = some (.int .i64 fuel)) (l1 : ∀ w', Fr [] X w' → w'.cell? ⟨b7, 1, none⟩ = some (.int .i64 depth)) (l2 : ∀ w', Fr [] X w' → w'.cell? ⟨b7, 2, none⟩ = some (.int .i64 cells))
    {K2 : World → World → List Fu → Option Addr → Nat → Prop} {K3 K4 : World → World → Option Addr → Nat → Prop} {K5 : World → World → Nat → Prop}
    (C52 : ∀ w', Fr [] X w' → Calls Tryz.prog 52 #[] w' (fun e w1 => e = .returned (.agg waysA) ∧ Fr [] X w1 ∧ Fr [] w' w1))
    (C53 : ∀ w', Fr [] X w' → Calls Tryz.prog 53 #[.agg #[.slice fa F.length fc, .int .i64 mn, .int .i64 mg]] w' (fun e w1 => ∃ (F' : List Fu) (a : Option Addr) (c : Nat), e = .returned (.agg #[.slice a F.length c, .int .i64 mn, .int .i64 mg]) ∧ K2 w' w1 F' a c ∧ Fr [] X w1 ∧ Fr [] w' w1))
    (C54 : ∀ w', Fr [] X w' → Calls Tryz.prog 54 #[.slice ia im.length ic] w' (fun e w1 => ∃ a c, e = .returned (.slice a im.length c) ∧ K3 w' w1 a c ∧ Fr [] X w1 ∧ Fr [] w' w1))
    (C54b : ∀ w', Fr [] X w' → Calls Tryz.prog 54 #[.slice na inp.length nc] w' (fun e w1 => ∃ a c, e = .returned (.slice a inp.length c) ∧ K4 w' w1 a c ∧ Fr [] X w1 ∧ Fr [] w' w1))
    (C55 : ∀ w', Fr [] X w' → Calls Tryz.prog 55 #[.int .i64 cells] w' (fun e w1 => e = .returned (.pointer (some ⟨w'.heap.size, 0, none⟩)) ∧ K5 w' w1 w'.heap.size ∧ Fr [] X w1 ∧ Fr [] w' w1))
    {Q : Exit → Act → World → Prop} {u0 u3 u5 u6 u8 u9 u10 u11 u12 u13 u14 u15 u16 u17 u18 u19 u20 u21 u22 u23 u24 u25 u26 u27 u28 u29 u30 u31 u32 u33 u34 u35 u36 u37 u38 u39 u40 u41 u42 u43 u44 u45 u46 u47 u48 u49 : Value}
    (h : ∀ w1 w2 w3 w4 w5 F' ga gc ja jc pa pc hb nb n23 n24 n25 n26 n27 n28 n29 n30 n31 n32 n33 n34 n35 n36 n37 n38 n39 n40 n41, K2 w1 w2 F' ga gc → K3 w2 w3 ja jc → K4 w3 w4 pa pc → hb = w4.heap.size → nb = w5.heap.size → K5 w4 w5 hb → Fr [] X w1 → Fr [] w1 w2 → Fr [] w2 w3 → Fr [] w3 w4 → Fr [] w4 w5 → Q .normal { tmps := #[u0, .slice ia im.length ic, .slice na inp.length nc, u3, .pointer (some ⟨b4, 0, none⟩), u5, u6, .pointer (some ⟨b7, 0, none⟩), u8, u9, u10, u11, u12, .pointer (some ⟨nb, 0, none⟩), u14, u15, u16, u17, u18, u19, u20, u21, u22, n23, n24, n25, n26, n27, n28, n29, n30, n31, n32, n33, n34, n35, n36, n37, n38, n39, n40, n41, u42, u43, u44, u45, u46, u47, u48, u49], defers := [] } (w5.alloc (.cells (mA (.slice ga F.length gc) (.int .i64 mn) (.int .i64 mg) (.slice ja im.length jc) (.slice pa inp.length pc) (.int .i64 fm) (.int .i64 dm) (.pointer (some ⟨hb, 0, none⟩)) (.slice none 0 0) (.int .i64 0) (.slice none 0 0) (.int .i64 0) (.int .i64 0) (.bool false) (.int .i64 0) (.int .i64 0) (.int .i64 0) (.int .i64 0)) 77))) :
    (Code.region 4 #[{ dst := some 23, op := Op.call { callee := Callee.value (Operand.func 52), args := #[], argTypes := #[] }, type := 73, pos := "interp.go:60", after := #[], guard := none }, { dst := some 24, op := Op.load 24 (Operand.tmp 4), type := 24, pos := "interp.go:58", after := #[], guard := none }, { dst := some 25, op := Op.call { callee := Callee.value (Operand.func 53), args := #[Operand.tmp 24], argTypes := #[24] }, type := 24, pos := "interp.go:61", after := #[{ on := 1, ground := Ground.data }, { on := 0, ground := Ground.chain }], guard := none }, { dst := some 26, op := Op.move (Operand.tmp 1), type := 25, pos := "interp.go:58", after := #[], guard := none }, { dst := some 27, op := Op.call { callee := Callee.value (Operand.func 54), args := #[Operand.tmp 26], argTypes := #[25] }, type := 25, pos := "interp.go:62", after := #[{ on := 3, ground := Ground.data }, { on := 2, ground := Ground.chain }], guard := none }, { dst := some 28, op := Op.move (Operand.tmp 2), type := 25, pos := "interp.go:58", after := #[], guard := none }, { dst := some 29, op := Op.call { callee := Callee.value (Operand.func 54), args := #[Operand.tmp 28], argTypes := #[25] }, type := 25, pos := "interp.go:63", after := #[{ on := 5, ground := Ground.data }, { on := 4, ground := Ground.chain }], guard := none }, { dst := some 30, op := Op.fieldAddr 27 (Operand.tmp 7) 0, type := 0, pos := "interp.go:58", after := #[], guard := none }, { dst := some 31, op := Op.load 3 (Operand.tmp 30), type := 3, pos := "interp.go:58", after := #[{ on := 7, ground := Ground.data }], guard := none }, { dst := some 32, op := Op.call { callee := Callee.builtin Builtin.max, args := #[Operand.tmp 31, Operand.const (Value.int IntKind.i64 0)], argTypes := #[3, 3] }, type := 3, pos := "interp.go:58", after := #[{ on := 8, ground := Ground.data }], guard := none }, { dst := some 33, op := Op.fieldAddr 27 (Operand.tmp 7) 1, type := 0, pos := "interp.go:58", after := #[], guard := none }, { dst := some 34, op := Op.load 3 (Operand.tmp 33), type := 3, pos := "interp.go:58", after := #[{ on := 10, ground := Ground.data }], guard := none }, { dst := some 35, op := Op.call { callee := Callee.builtin Builtin.max, args := #[Operand.tmp 34, Operand.const (Value.int IntKind.i64 1)], argTypes := #[3, 3] }, type := 3, pos := "interp.go:58", after := #[{ on := 11, ground := Ground.data }], guard := none }, { dst := some 36, op := Op.call { callee := Callee.builtin Builtin.min, args := #[Operand.tmp 35, Operand.const (Value.int IntKind.i64 1000)], argTypes := #[3, 3] }, type := 3, pos := "interp.go:58", after := #[{ on := 12, ground := Ground.data }], guard := none }, { dst := some 37, op := Op.fieldAddr 27 (Operand.tmp 7) 2, type := 0, pos := "interp.go:58", after := #[], guard := none }, { dst := some 38, op := Op.load 3 (Operand.tmp 37), type := 3, pos := "interp.go:58", after := #[{ on := 14, ground := Ground.data }], guard := none }, { dst := some 39, op := Op.call { callee := Callee.value (Operand.func 55), args := #[Operand.tmp 38], argTypes := #[3] }, type := 36, pos := "interp.go:66", after := #[{ on := 15, ground := Ground.data }, { on := 6, ground := Ground.chain }], guard := none }, { dst := some 40, op := Op.build 77 #[(0, Operand.const (Value.bool true)), (1, Operand.tmp 23), (2, Operand.tmp 25), (3, Operand.tmp 27), (4, Operand.tmp 29), (5, Operand.tmp 32), (6, Operand.tmp 36), (7, Operand.tmp 39)], type := 77, pos := "interp.go:58", after := #[{ on := 0, ground := Ground.data }, { on := 2, ground := Ground.data }, { on := 4, ground := Ground.data }, { on := 6, ground := Ground.data }, { on := 9, ground := Ground.data }, { on := 13, ground := Ground.data }, { on := 16, ground := Ground.data }], guard := none }, { dst := some 41, op := Op.box 77 (Operand.tmp 40), type := 46, pos := "interp.go:58", after := #[{ on := 17, ground := Ground.data }], guard := none }, { dst := some 13, op := Op.assign (Operand.tmp 41), type := 46, pos := "interp.go:58", after := #[{ on := 18, ground := Ground.data }, { on := 16, ground := Ground.chain }, { on := 0, ground := Ground.phase }, { on := 1, ground := Ground.phase }, { on := 2, ground := Ground.phase }, { on := 3, ground := Ground.phase }, { on := 4, ground := Ground.phase }, { on := 5, ground := Ground.phase }, { on := 6, ground := Ground.phase }, { on := 7, ground := Ground.phase }, { on := 8, ground := Ground.phase }, { on := 9, ground := Ground.phase }, { on := 10, ground := Ground.phase }, { on := 11, ground := Ground.phase }, { on := 12, ground := Ground.phase }, { on := 13, ground := Ground.phase }, { on := 14, ground := Ground.phase }, { on := 15, ground := Ground.phase }, { on := 16, ground := Ground.phase }, { on := 17, ground := Ground.phase }, { on := 18, ground := Ground.phase }], guard := none }] true).wp Tryz.prog Q { tmps := #[u0, .slice ia im.length ic, .slice na inp.length nc, u3, .pointer (some ⟨b4, 0, none⟩), u5, u6, .pointer (some ⟨b7, 0, none⟩), u8, u9, u10, u11, u12, u13, u14, u15, u16, u17, u18, u19, u20, u21, u22, u23, u24, u25, u26, u27, u28, u29, u30, u31, u32, u33, u34, u35, u36, u37, u38, u39, u40, u41, u42, u43, u44, u45, u46, u47, u48, u49], defers := [] } X := by
  refine wp_mono (Q := PlainR (fun a w => Q .normal a w)) ?_ (fun e a w h => by obtain ⟨rfl, h2⟩ := h; exact h2)
  refine wp_region_held (S := fun w' => Fr [] X w') (by kernel_rfl) ?_
  change wpAnyH _ _ _ _ _ _ _ _ X.drew
  have hS : Fr [] X X.drew := Fr.drew (Fr.refl _ X)
  have hX : Fr [] X X.drew := hS
  generalize X.drew = Y at *
  refine wpAnyH_take (i := 1) (oi := { dst := some 24, op := Op.load 24 (Operand.tmp 4), type := 24, pos := "interp.go:58", after := #[], guard := none }) (v := .agg #[.slice fa F.length fc, .int .i64 mn, .int .i64 mg]) rfl (by decide +kernel) (by decide +kernel) (by decide +kernel) (fun _ _ _ h => absurd h.1 (by simp)) (Or.inl ⟨by rfl, fun wq hSq => by (have q0 := m0 wq hSq; have q1 := m1 wq hSq; have q2 := m2 wq hSq; go_simp)⟩) hS ?_
  simp only [Act.put, List.setIfInBounds_toArray, List.set_cons_zero, List.set_cons_succ]
  refine wpAnyH_take (i := 3) (oi := { dst := some 26, op := Op.move (Operand.tmp 1), type := 25, pos := "interp.go:58", after := #[], guard := none }) (v := .slice ia im.length ic) rfl (by decide +kernel) (by decide +kernel) (by decide +kernel) (fun _ _ _ h => absurd h.1 (by simp)) (Or.inl ⟨by rfl, fun wq hSq => by first | rfl | go_simp⟩) hS ?_
  simp only [Act.put, List.setIfInBounds_toArray, List.set_cons_zero, List.set_cons_succ]
  refine wpAnyH_take (i := 5) (oi := { dst := some 28, op := Op.move (Operand.tmp 2), type := 25, pos := "interp.go:58", after := #[], guard := none }) (v := .slice na inp.length nc) rfl (by decide +kernel) (by decide +kernel) (by decide +kernel) (fun _ _ _ h => absurd h.1 (by simp)) (Or.inl ⟨by rfl, fun wq hSq => by first | rfl | go_simp⟩) hS ?_
  simp only [Act.put, List.setIfInBounds_toArray, List.set_cons_zero, List.set_cons_succ]
  refine wpAnyH_take (i := 7) (oi := { dst := some 30, op := Op.fieldAddr 27 (Operand.tmp 7) 0, type := 0, pos := "interp.go:58", after := #[], guard := none }) (v := .pointer (some ⟨b7, 0, none⟩)) rfl (by decide +kernel) (by decide +kernel) (by decide +kernel) (fun _ _ _ h => absurd h.1 (by simp)) (Or.inl ⟨by rfl, fun wq hSq => by first | rfl | go_simp⟩) hS ?_
  simp only [Act.put, List.setIfInBounds_toArray, List.set_cons_zero, List.set_cons_succ]
  refine wpAnyH_take (i := 8) (oi := { dst := some 31, op := Op.load 3 (Operand.tmp 30), type := 3, pos := "interp.go:58", after := #[{ on := 7, ground := Ground.data }], guard := none }) (v := .int .i64 fuel) rfl (by decide +kernel) (by decide +kernel) (by decide +kernel) (fun _ _ _ h => absurd h.1 (by simp)) (Or.inl ⟨by rfl, fun wq hSq => by (have q0 := l0 wq hSq; go_simp)⟩) hS ?_
  simp only [Act.put, List.setIfInBounds_toArray, List.set_cons_zero, List.set_cons_succ]
  refine wpAnyH_take (i := 9) (oi := { dst := some 32, op := Op.call { callee := Callee.builtin Builtin.max, args := #[Operand.tmp 31, Operand.const (Value.int IntKind.i64 0)], argTypes := #[3, 3] }, type := 3, pos := "interp.go:58", after := #[{ on := 8, ground := Ground.data }], guard := none }) (v := .int .i64 fm) rfl (by decide +kernel) (by decide +kernel) (by decide +kernel) (fun _ _ _ h => absurd h.1 (by simp)) (Or.inl ⟨by rfl, fun wq hSq => by (rw [← HFM.out]; first | rfl | go_simp)⟩) hS ?_
  simp only [Act.put, List.setIfInBounds_toArray, List.set_cons_zero, List.set_cons_succ]
  refine wpAnyH_take (i := 10) (oi := { dst := some 33, op := Op.fieldAddr 27 (Operand.tmp 7) 1, type := 0, pos := "interp.go:58", after := #[], guard := none }) (v := .pointer (some ⟨b7, 1, none⟩)) rfl (by decide +kernel) (by decide +kernel) (by decide +kernel) (fun _ _ _ h => absurd h.1 (by simp)) (Or.inl ⟨by rfl, fun wq hSq => by first | rfl | go_simp⟩) hS ?_
  simp only [Act.put, List.setIfInBounds_toArray, List.set_cons_zero, List.set_cons_succ]
  refine wpAnyH_take (i := 11) (oi := { dst := some 34, op := Op.load 3 (Operand.tmp 33), type := 3, pos := "interp.go:58", after := #[{ on := 10, ground := Ground.data }], guard := none }) (v := .int .i64 depth) rfl (by decide +kernel) (by decide +kernel) (by decide +kernel) (fun _ _ _ h => absurd h.1 (by simp)) (Or.inl ⟨by rfl, fun wq hSq => by (have q0 := l1 wq hSq; go_simp)⟩) hS ?_
  simp only [Act.put, List.setIfInBounds_toArray, List.set_cons_zero, List.set_cons_succ]
  refine wpAnyH_take (i := 12) (oi := { dst := some 35, op := Op.call { callee := Callee.builtin Builtin.max, args := #[Operand.tmp 34, Operand.const (Value.int IntKind.i64 1)], argTypes := #[3, 3] }, type := 3, pos := "interp.go:58", after := #[{ on := 11, ground := Ground.data }], guard := none }) (v := .int .i64 (if depth < 1 then 1 else depth)) rfl (by decide +kernel) (by decide +kernel) (by decide +kernel) (fun _ _ _ h => absurd h.1 (by simp)) (Or.inl ⟨by rfl, fun wq hSq => by first | rfl | go_simp⟩) hS ?_
  simp only [Act.put, List.setIfInBounds_toArray, List.set_cons_zero, List.set_cons_succ]
  refine wpAnyH_take (i := 13) (oi := { dst := some 36, op := Op.call { callee := Callee.builtin Builtin.min, args := #[Operand.tmp 35, Operand.const (Value.int IntKind.i64 1000)], argTypes := #[3, 3] }, type := 3, pos := "interp.go:58", after := #[{ on := 12, ground := Ground.data }], guard := none }) (v := .int .i64 dm) rfl (by decide +kernel) (by decide +kernel) (by decide +kernel) (fun _ _ _ h => absurd h.1 (by simp)) (Or.inl ⟨by rfl, fun wq hSq => by (rw [← HDM.out]; first | rfl | go_simp)⟩) hS ?_
  simp only [Act.put, List.setIfInBounds_toArray, List.set_cons_zero, List.set_cons_succ]
  refine wpAnyH_take (i := 14) (oi := { dst := some 37, op := Op.fieldAddr 27 (Operand.tmp 7) 2, type := 0, pos := "interp.go:58", after := #[], guard := none }) (v := .pointer (some ⟨b7, 2, none⟩)) rfl (by decide +kernel) (by decide +kernel) (by decide +kernel) (fun _ _ _ h => absurd h.1 (by simp)) (Or.inl ⟨by rfl, fun wq hSq => by first | rfl | go_simp⟩) hS ?_
  simp only [Act.put, List.setIfInBounds_toArray, List.set_cons_zero, List.set_cons_succ]
  refine wpAnyH_take (i := 15) (oi := { dst := some 38, op := Op.load 3 (Operand.tmp 37), type := 3, pos := "interp.go:58", after := #[{ on := 14, ground := Ground.data }], guard := none }) (v := .int .i64 cells) rfl (by decide +kernel) (by decide +kernel) (by decide +kernel) (fun _ _ _ h => absurd h.1 (by simp)) (Or.inl ⟨by rfl, fun wq hSq => by (have q0 := l2 wq hSq; go_simp)⟩) hS ?_
  simp only [Act.put, List.setIfInBounds_toArray, List.set_cons_zero, List.set_cons_succ]
  refine wpAnyH_ready (rs := [0]) (by decide +kernel) (by simp) ?_
  refine AllReadyH.cons (o := { dst := some 23, op := Op.call { callee := Callee.value (Operand.func 52), args := #[], argTypes := #[] }, type := 73, pos := "interp.go:60", after := #[], guard := none }) rfl (fun K hK => ?_) AllReadyH.nil
  go_simp
  refine (C52 _ hS).mono ?_
  rintro e w1 ⟨rfl, hS, E1⟩
  have W1 := hS
  refine hK.out _ _ hS (fun _ => ?_)
  clear hK K
  try simp only [Act.put, List.setIfInBounds_toArray, List.set_cons_zero, List.set_cons_succ]
  refine wpAnyH_ready (rs := [2]) (by decide +kernel) (by simp) ?_
  refine AllReadyH.cons (o := { dst := some 25, op := Op.call { callee := Callee.value (Operand.func 53), args := #[Operand.tmp 24], argTypes := #[24] }, type := 24, pos := "interp.go:61", after := #[{ on := 1, ground := Ground.data }, { on := 0, ground := Ground.chain }], guard := none }) rfl (fun K hK => ?_) AllReadyH.nil
  go_simp
  refine (C53 _ hS).mono ?_
  rintro e w2 ⟨F', ga, gc, rfl, K2', hS, E2⟩
  refine hK.out _ _ hS (fun _ => ?_)
  clear hK K
  try simp only [Act.put, List.setIfInBounds_toArray, List.set_cons_zero, List.set_cons_succ]
  refine wpAnyH_ready (rs := [4]) (by decide +kernel) (by simp) ?_
  refine AllReadyH.cons (o := { dst := some 27, op := Op.call { callee := Callee.value (Operand.func 54), args := #[Operand.tmp 26], argTypes := #[25] }, type := 25, pos := "interp.go:62", after := #[{ on := 3, ground := Ground.data }, { on := 2, ground := Ground.chain }], guard := none }) rfl (fun K hK => ?_) AllReadyH.nil
  go_simp
  refine (C54 _ hS).mono ?_
  rintro e w3 ⟨ja, jc, rfl, K3', hS, E3⟩
  refine hK.out _ _ hS (fun _ => ?_)
  clear hK K
  try simp only [Act.put, List.setIfInBounds_toArray, List.set_cons_zero, List.set_cons_succ]
  refine wpAnyH_ready (rs := [6]) (by decide +kernel) (by simp) ?_
  refine AllReadyH.cons (o := { dst := some 29, op := Op.call { callee := Callee.value (Operand.func 54), args := #[Operand.tmp 28], argTypes := #[25] }, type := 25, pos := "interp.go:63", after := #[{ on := 5, ground := Ground.data }, { on := 4, ground := Ground.chain }], guard := none }) rfl (fun K hK => ?_) AllReadyH.nil
  go_simp
  refine (C54b _ hS).mono ?_
  rintro e w4 ⟨pa, pc, rfl, K4', hS, E4⟩
  refine hK.out _ _ hS (fun _ => ?_)
  clear hK K
  try simp only [Act.put, List.setIfInBounds_toArray, List.set_cons_zero, List.set_cons_succ]
  refine wpAnyH_ready (rs := [16]) (by decide +kernel) (by simp) ?_
  refine AllReadyH.cons (o := { dst := some 39, op := Op.call { callee := Callee.value (Operand.func 55), args := #[Operand.tmp 38], argTypes := #[3] }, type := 36, pos := "interp.go:66", after := #[{ on := 15, ground := Ground.data }, { on := 6, ground := Ground.chain }], guard := none }) rfl (fun K hK => ?_) AllReadyH.nil
  go_simp
  refine (C55 _ hS).mono ?_
  rintro e w5 ⟨rfl, K5, hS, E5⟩
  obtain ⟨hb, hhb⟩ : ∃ hb, hb = w4.heap.size := ⟨_, rfl⟩
  rw [← hhb] at K5 ⊢
  have HHB : Hid (hb = w4.heap.size) := hhb
  clear hhb
  refine hK.out _ _ hS (fun _ => ?_)
  clear hK K
  try simp only [Act.put, List.setIfInBounds_toArray, List.set_cons_zero, List.set_cons_succ]
  refine wpAnyH_take (i := 17) (oi := { dst := some 40, op := Op.build 77 #[(0, Operand.const (Value.bool true)), (1, Operand.tmp 23), (2, Operand.tmp 25), (3, Operand.tmp 27), (4, Operand.tmp 29), (5, Operand.tmp 32), (6, Operand.tmp 36), (7, Operand.tmp 39)], type := 77, pos := "interp.go:58", after := #[{ on := 0, ground := Ground.data }, { on := 2, ground := Ground.data }, { on := 4, ground := Ground.data }, { on := 6, ground := Ground.data }, { on := 9, ground := Ground.data }, { on := 13, ground := Ground.data }, { on := 16, ground := Ground.data }], guard := none }) (v := .agg (mA (.slice ga F.length gc) (.int .i64 mn) (.int .i64 mg) (.slice ja im.length jc) (.slice pa inp.length pc) (.int .i64 fm) (.int .i64 dm) (.pointer (some ⟨hb, 0, none⟩)) (.slice none 0 0) (.int .i64 0) (.slice none 0 0) (.int .i64 0) (.int .i64 0) (.bool false) (.int .i64 0) (.int .i64 0) (.int .i64 0) (.int .i64 0))) rfl (by decide +kernel) (by decide +kernel) (by decide +kernel) (fun _ _ _ h => absurd h.1 (by simp)) (Or.inl ⟨by rfl, fun wq hSq => by kernel_rfl⟩) hS ?_
  simp only [Act.put, List.setIfInBounds_toArray, List.set_cons_zero, List.set_cons_succ]
  refine wpAnyH_ready (rs := [18]) (by decide +kernel) (by simp) ?_
  refine AllReadyH.cons (o := { dst := some 41, op := Op.box 77 (Operand.tmp 40), type := 46, pos := "interp.go:58", after := #[{ on := 17, ground := Ground.data }], guard := none }) rfl (fun K hK => ?_) AllReadyH.nil
  go_simp
  obtain ⟨nb, hnb⟩ : ∃ nb, nb = w5.heap.size := ⟨_, rfl⟩
  rw [← hnb]
  have HNB : Hid (nb = w5.heap.size) := hnb
  clear hnb
  refine hK.out _ _ (hS.alloc _) (fun _ => ?_)
  have hS := hS.alloc (.cells (mA (.slice ga F.length gc) (.int .i64 mn) (.int .i64 mg) (.slice ja im.length jc) (.slice pa inp.length pc) (.int .i64 fm) (.int .i64 dm) (.pointer (some ⟨hb, 0, none⟩)) (.slice none 0 0) (.int .i64 0) (.slice none 0 0) (.int .i64 0) (.int .i64 0) (.bool false) (.int .i64 0) (.int .i64 0) (.int .i64 0) (.int .i64 0)) 77)
  clear hK K
  try simp only [Act.put, List.setIfInBounds_toArray, List.set_cons_zero, List.set_cons_succ]
  refine wpAnyH_take (i := 19) (oi := { dst := some 13, op := Op.assign (Operand.tmp 41), type := 46, pos := "interp.go:58", after := #[{ on := 18, ground := Ground.data }, { on := 16, ground := Ground.chain }, { on := 0, ground := Ground.phase }, { on := 1, ground := Ground.phase }, { on := 2, ground := Ground.phase }, { on := 3, ground := Ground.phase }, { on := 4, ground := Ground.phase }, { on := 5, ground := Ground.phase }, { on := 6, ground := Ground.phase }, { on := 7, ground := Ground.phase }, { on := 8, ground := Ground.phase }, { on := 9, ground := Ground.phase }, { on := 10, ground := Ground.phase }, { on := 11, ground := Ground.phase }, { on := 12, ground := Ground.phase }, { on := 13, ground := Ground.phase }, { on := 14, ground := Ground.phase }, { on := 15, ground := Ground.phase }, { on := 16, ground := Ground.phase }, { on := 17, ground := Ground.phase }, { on := 18, ground := Ground.phase }], guard := none }) (v := .pointer (some ⟨nb, 0, none⟩)) rfl (by decide +kernel) (by decide +kernel) (by decide +kernel) (fun _ _ _ h => absurd h.1 (by simp)) (Or.inl ⟨by rfl, fun wq hSq => by first | rfl | go_simp⟩) hS ?_
  simp only [Act.put, List.setIfInBounds_toArray, List.set_cons_zero, List.set_cons_succ]
  refine wpAnyH_done (by decide +kernel) ?_ _
  exact ⟨rfl, h _ _ _ _ _ _ _ _ _ _ _ _ _ _ _ _ _ _ _ _ _ _ _ _ _ _ _ _ _ _ _ _ _ K2' K3' K4' HHB.out HNB.out K5 W1 E2 E3 E4 E5⟩
end Go.Proofs.YtkjkpkmmojchiaaGreatDoor

namespace Go.Proofs.YtkjkpkmmojchiaaGreatDoor
open Go.RowKit
set_option linter.unusedVariables false
set_option linter.unusedSimpArgs false

theorem OC.fuok {w : World} {B : Nat} {f : Fu} (h : OC w B f) (hn : f.name.size ≤ 140737488355328) (hc : f.code.length ≤ 2000000) (hl : ∀ x ∈ f.code, x.l.length ≤ 2000000000000) : FuOk w.heap.size w f := by
  have hs := own_slice h.row
  refine ⟨?_, hn, by omega, ?_, ?_⟩
  · intro j x hx
    have hm := List.mem_of_getElem? hx
    obtain ⟨g, c, e, k0, _, hg⟩ := own_cells h.row (j := j * 6) (x := .int .i64 x.op) (by simpa [In.cl] using rowI_at hx 0 (by omega))
    injection e with e1 e2 e3
    obtain ⟨_, _, e4, k1, _⟩ := own_cells h.row (j := j * 6 + 1) (x := .int .i64 x.a) (by simpa [In.cl] using rowI_at hx 1 (by omega))
    rw [e1] at e4
    cases e4
    obtain ⟨_, _, e4, k2, _⟩ := own_cells h.row (j := j * 6 + 2) (x := .int .i64 x.b) (by simpa [In.cl] using rowI_at hx 2 (by omega))
    rw [e1] at e4
    cases e4
    obtain ⟨_, _, e4, k3, _⟩ := own_cells h.row (j := j * 6 + 3) (x := .int .i64 x.c) (by simpa [In.cl] using rowI_at hx 3 (by omega))
    rw [e1] at e4
    cases e4
    obtain ⟨_, _, e4, k4, _⟩ := own_cells h.row (j := j * 6 + 4) (x := .int .i64 x.k) (by simpa [In.cl] using rowI_at hx 4 (by omega))
    rw [e1] at e4
    cases e4
    obtain ⟨_, _, e4, k5, _⟩ := own_cells h.row (j := j * 6 + 5) (x := .slice x.la x.l.length x.lc) (by simpa [In.cl] using rowI_at hx 5 (by omega))
    rw [e1] at e4
    cases e4
    refine ⟨g, 0, e1, hg, ?_⟩
    rw [Nat.zero_add]
    exact ⟨k0, k1, k2, k3, k4, k5, (h.ls x hm).inok (by have := hl x hm; omega)⟩
  · rcases h.row.2 with ⟨e, h0⟩ | ⟨g, cap, cur, e, _, _, hc2, _⟩
    · omega
    · injection e with e1 e2 e3
      omega
  · intro e
    rcases h.row.2 with ⟨e2, h0⟩ | ⟨g, cap, cur, e2, _⟩
    · injection e2 with e3 e4 e5
    · injection e2 with e3 e4 e5
      rw [e] at e3
      cases e3
theorem fat_of {w : World} {b0 : Nat} {F' : List Fu} {a : Option Addr} {c : Nat} (hrow : w.ownsRow b0 87 4 (.slice a F'.length c) F'.length (rowF F')) (hf : ∀ x ∈ F', FuOk w.heap.size w x) : FAt w.heap.size w a F' := by
  intro j x hx
  obtain ⟨g, gc, e, k0, _, hg⟩ := own_cells hrow (j := j * 4) (x := .string x.name) (by simpa [Fu.cl] using rowF_at hx 0 (by omega))
  injection e with e1 e2 e3
  obtain ⟨_, _, e4, k1, _⟩ := own_cells hrow (j := j * 4 + 1) (x := .int .i64 x.ps) (by simpa [Fu.cl] using rowF_at hx 1 (by omega))
  rw [e1] at e4
  cases e4
  obtain ⟨_, _, e4, k2, _⟩ := own_cells hrow (j := j * 4 + 2) (x := .int .i64 x.rs) (by simpa [Fu.cl] using rowF_at hx 2 (by omega))
  rw [e1] at e4
  cases e4
  obtain ⟨_, _, e4, k3, _⟩ := own_cells hrow (j := j * 4 + 3) (x := .slice x.ca x.code.length x.cc) (by simpa [Fu.cl] using rowF_at hx 3 (by omega))
  rw [e1] at e4
  cases e4
  refine ⟨g, 0, e1, hg, ?_⟩
  rw [Nat.zero_add]
  exact ⟨k0, k1, k2, k3, hf x (List.mem_of_getElem? hx)⟩
/-- What copied code has of the first. -/
theorem abs_mem {F F' : List Fu} (h : F'.map Fu.abs = F.map Fu.abs) {x : Fu} (hx : x ∈ F') : ∃ y ∈ F, x.abs = y.abs := by
  have : x.abs ∈ F.map Fu.abs := by rw [← h]; exact List.mem_map_of_mem hx
  obtain ⟨y, hy, e⟩ := List.mem_map.1 this
  exact ⟨y, hy, e.symm⟩
theorem abs_at {F F' : List Fu} (h : F'.map Fu.abs = F.map Fu.abs) {i : Nat} {y : Fu} (hy : F[i]? = some y) : ∃ x, F'[i]? = some x ∧ x.abs = y.abs := by
  have : (F'.map Fu.abs)[i]? = some y.abs := by rw [h, List.getElem?_map, hy]; rfl
  rw [List.getElem?_map] at this
  cases hx : F'[i]? with
  | none => rw [hx] at this; simp at this
  | some x => rw [hx] at this; simp at this; exact ⟨x, rfl, this⟩
theorem abs_code {x y : Fu} (h : x.abs = y.abs) : x.ps = y.ps ∧ x.rs = y.rs ∧ x.code.length = y.code.length ∧ x.code.map In.abs = y.code.map In.abs := by
  unfold Fu.abs at h
  injection h with h1 h2 h3
  exact ⟨h1, h2, by have := congrArg List.length h3; simpa using this, h3⟩
theorem abs_ins {L L' : List In} (h : L'.map In.abs = L.map In.abs) {i : Nat} {y : In} (hy : L[i]? = some y) : ∃ x, L'[i]? = some x ∧ x.abs = y.abs := by
  have : (L'.map In.abs)[i]? = some y.abs := by rw [h, List.getElem?_map, hy]; rfl
  rw [List.getElem?_map] at this
  cases hx : L'[i]? with
  | none => rw [hx] at this; simp at this
  | some x => rw [hx] at this; simp at this; exact ⟨x, rfl, this⟩
theorem abs_list {L L' : List In} (h : L'.map In.abs = L.map In.abs) {x : In} (hx : x ∈ L') : ∃ y ∈ L, x.l = y.l := by
  have : x.abs ∈ L.map In.abs := by rw [← h]; exact List.mem_map_of_mem hx
  obtain ⟨y, hy, e⟩ := List.mem_map.1 this
  exact ⟨y, hy, by have := congrArg AI.l e; exact this.symm⟩
/-- Copied code, in later worlds. -/
theorem copied_fat {w' w1 u : World} {B : Nat} {F F' : List Fu} {a : Option Addr} {c : Nat} (h : F'.map Fu.abs = F.map Fu.abs) (hrow : w1.ownsRow w'.heap.size 87 4 (.slice a F.length c) F.length (rowF F')) (hoc : ∀ x ∈ F', OC w1 w'.heap.size x) (hnm : ∀ x ∈ F', ∃ y ∈ F, x.name = y.name) (hk : ∀ f ∈ F, f.code.length ≤ 2000000) (hl : ∀ f ∈ F, ∀ x ∈ f.code, x.l.length ≤ 2000000000000) (hn : ∀ f ∈ F, f.name.size ≤ 140737488355328) (f : Fr [] w1 u) : FAt u.heap.size u a F' := by
  have hlen : F'.length = F.length := by have := congrArg List.length h; simpa using this
  rw [← hlen] at hrow
  refine fat_of (own_fr hrow f (by simp)) (fun x hx => ?_)
  obtain ⟨y, hy, e⟩ := abs_mem h hx
  obtain ⟨e1, e2, e3, e4⟩ := abs_code e
  refine ((hoc x hx).fr f (by simp)).fuok ?_ (by rw [e3]; exact hk y hy) (fun z hz => ?_)
  · obtain ⟨y2, hy2, e5⟩ := hnm x hx
    rw [e5]
    exact hn y2 hy2
  · obtain ⟨q, hq, e5⟩ := abs_list e4 hz
    rw [e5]
    exact hl y hy q hq
end Go.Proofs.YtkjkpkmmojchiaaGreatDoor

namespace Go.Proofs.YtkjkpkmmojchiaaGreatDoor
open Go.RowKit
set_option linter.unusedVariables false
set_option linter.unusedSimpArgs false

/-- What a run begins with. -/
def St.zero : St := ⟨[], [], 0, 0, 0, 0, [], 0, false, 0, 0, 0, 0⟩
def St.start (main n : Nat) : St := ⟨[newF main n (-1)], [], 0, 0, 0, 0, [], 0, false, 0, 0, 0, 0⟩
theorem heapNew (l : Int) (w : World) : Calls Tryz.prog 55 #[.int .i64 l] w fun e w' => e = .returned (.pointer (some ⟨w.heap.size, 0, none⟩)) ∧ Rep w' w.heap.size w.heap.size (cap0 l) 0 (.slice none 0 0) 0 0 [] ∧ Fr [] w w' :=
  (new_any l w).mono fun e w' ⟨h1, h2⟩ => by
    subst h2
    exact ⟨h1, ⟨heap_alloc_new w _, World.ownsRow_nil _ _ _ _, fun _ ht => by simp at ht, List.nodup_nil, Nat.le_refl _, fun _ ht => by simp at ht⟩, (Fr.refl _ _).alloc _⟩
theorem row_kat {w : World} {b : Nat} {a : Option Addr} {c : Nat} {K : List Int} (h : w.ownsRow b 2 1 (.slice a K.length c) K.length (K.map (Value.int .i64))) {u : World} (f : Fr [] w u) {B : Nat} (hB : w.heap.size ≤ B) : KAt B u a K := by
  intro j k hk
  obtain ⟨g, gc, e, k0, _, hg⟩ := own_cells h (j := j) (x := .int .i64 k) (by rw [List.getElem?_map, hk]; rfl)
  injection e with e1 e2 e3
  exact ⟨g, 0, e1, Nat.lt_of_lt_of_le hg hB, by rw [Nat.zero_add]; exact f.cell1 k0 (by simp)⟩
def cfD (depth : Int) : Int := if 1000 < (if depth < 1 then 1 else depth) then 1000 else (if depth < 1 then 1 else depth)
def cfF (fuel : Int) : Int := if fuel < 0 then 0 else fuel
set_option maxRecDepth 100000 in
set_option maxHeartbeats 8000000 in
theorem new_ok (w : World) (B : Nat) (F : List Fu) (fa : Option Addr) (fc : Nat) (mn mg : Int) (im inp : List Int) (ia na : Option Addr) (ic nc : Nat) (fuel depth cells : Int) (T : Tabs w) (h : CdOk B w F fa F.length mg) (hB : B ≤ w.heap.size) (hnn : fa = none → fc = 0) (hF : F.length ≤ 2000000) (hk : ∀ f ∈ F, f.code.length ≤ 2000000) (hl : ∀ f ∈ F, ∀ x ∈ f.code, x.l.length ≤ 2000000000000) (hnl : ∀ f ∈ F, f.name.size ≤ 140737488355328)
    (hi : KAt B w ia im) (hin : ia = none → ic = 0) (hil : im.length ≤ 2000000000) (hj : KAt B w na inp) (hjn : na = none → nc = 0) (hjl : inp.length ≤ 2000000000) (hck : checkO F mn mg = (0, 0, 0)) {i n : Nat} {fu : Fu} (hmn : mn = i) (hfu : F[i]? = some fu) (hrs : fu.rs = n) (hn : n ≤ 1000) :
    Calls Tryz.prog 15 #[.agg #[.slice fa F.length fc, .int .i64 mn, .int .i64 mg], .slice ia im.length ic, .slice na inp.length nc, .agg #[.int .i64 fuel, .int .i64 depth, .int .i64 cells]] w fun e w' => ∃ P B', e = .returned (.tuple #[.pointer (some ⟨P.mb, 0, none⟩), .int .i64 0]) ∧ MAt w' B' P ⟨F.map Fu.abs, mn, mg, im, inp, cap0 cells, cfF fuel, cfD depth⟩ (St.start i n) 0 ∧ w.heap.size ≤ B' ∧ B' ≤ w'.heap.size ∧ P.F.map Fu.abs = F.map Fu.abs ∧ Fr [] w w' ∧ (∀ k ∈ footM P, w.heap.size ≤ k) := by
  have f2 : Fr [] w ((w.alloc (.cells #[.slice fa F.length fc, .int .i64 mn, .int .i64 mg] 24)).alloc (.cells #[.int .i64 fuel, .int .i64 depth, .int .i64 cells] 27)) := ((Fr.refl _ _).alloc _).alloc _
  have b1 : ((w.alloc (.cells #[.slice fa F.length fc, .int .i64 mn, .int .i64 mg] 24)).alloc (.cells #[.int .i64 fuel, .int .i64 depth, .int .i64 cells] 27)).heap[w.heap.size]? = some (.cells #[.slice fa F.length fc, .int .i64 mn, .int .i64 mg] 24 (0, 0)) := (((Fr.refl [] _).alloc _).block _ (by simp) (by simp)).trans (heap_alloc_new w _)
  have b2 := blk2 w (.cells #[.slice fa F.length fc, .int .i64 mn, .int .i64 mg] 24) (.cells #[.int .i64 fuel, .int .i64 depth, .int .i64 cells] 27)
  have HMN : Hid (mn = i) := hmn
  clear hmn
  have HT := T.fr f2 (by simp)
  have HC := h.fr f2 (by simp)
  have HI := hi.fr f2 (by simp)
  have HJ := hj.fr f2 (by simp)
  go_enter Tryz.func15, Tryz.ntmps15
  go_upto_region 1 with fail
  generalize (w.alloc (.cells #[.slice fa F.length fc, .int .i64 mn, .int .i64 mg] 24)).alloc (.cells #[.int .i64 fuel, .int .i64 depth, .int .i64 cells] 27) = W at *
  have CC : Calls Tryz.prog 51 #[.agg #[.slice fa F.length fc, .int .i64 mn, .int .i64 mg]] W (fun e w' => e = .returned (.tuple #[.int .i64 0, .int .i64 0, .int .i64 0]) ∧ Fr [] W w') := (check_any fc mn HC HT (Nat.le_trans hB f2.size)).mono fun e w' ⟨h1, h2⟩ => ⟨by rw [h1, hck]; rfl, h2⟩
  have c0 : W.cell? ⟨w.heap.size, 0, none⟩ = some _ := at_cells b1 0 rfl
  have c1 : W.cell? ⟨w.heap.size, 1, none⟩ = some _ := at_cells b1 1 rfl
  have c2 : W.cell? ⟨w.heap.size, 2, none⟩ = some _ := at_cells b1 2 rfl
  have HF2 : Hid (Fr [] w W) := f2
  have HCC : Hid (CdOk B W F fa F.length mg) := HC
  have HII : Hid (KAt B W ia im ∧ KAt B W na inp ∧ B ≤ W.heap.size) := ⟨HI, HJ, Nat.le_trans hB f2.size⟩
  have HB12 : Hid (W.heap[w.heap.size]? = some (.cells #[.slice fa F.length fc, .int .i64 mn, .int .i64 mg] 24 (0, 0)) ∧ W.heap[w.heap.size + 1]? = some (.cells #[.int .i64 fuel, .int .i64 depth, .int .i64 cells] 27 (0, 0))) := ⟨b1, b2⟩
  clear T h hi hj HT HC HI HJ hck f2 b1 b2 hB
  go_wp2_with fail
  with_reducible (refine CC.mono ?_)
  rintro e X ⟨rfl, fX⟩
  clear CC
  go_upto_region 4 with fail
  have G : Hid (Fr [] w X) := HF2.out.trans fX
  have e1 := (fX.block _ (Array.getElem?_eq_some_iff.1 HB12.out.1).1 (by simp)).trans HB12.out.1
  have e2 := (fX.block _ (Array.getElem?_eq_some_iff.1 HB12.out.2).1 (by simp)).trans HB12.out.2
  have HCX : CdOk B X F fa F.length mg := HCC.out.fr fX (by simp)
  have HIX := HII.out.1.fr fX (by simp)
  have HJX := HII.out.2.1.fr fX (by simp)
  have hBX := Nat.le_trans HII.out.2.2 fX.size
  refine new_reg (F := F) (im := im) (inp := inp) (dm := cfD depth) (fm := cfF fuel)
    (K2 := fun w' w1 F' a c => F'.map Fu.abs = F.map Fu.abs ∧ w1.ownsRow w'.heap.size 87 4 (.slice a F.length c) F.length (rowF F') ∧ (∀ x ∈ F', OC w1 w'.heap.size x) ∧ (∀ x ∈ F', ∃ y ∈ F, x.name = y.name))
    (K3 := fun w' w1 a c => w1.ownsRow w'.heap.size 2 1 (.slice a im.length c) im.length (im.map (Value.int .i64)))
    (K4 := fun w' w1 a c => w1.ownsRow w'.heap.size 2 1 (.slice a inp.length c) inp.length (inp.map (Value.int .i64)))
    (K5 := fun w' w1 hb => Rep w1 hb hb (cap0 cells) 0 (.slice none 0 0) 0 0 []) rfl rfl
    (fun w' f => f.cell1 (at_cells e1 0 rfl) (by simp)) (fun w' f => f.cell1 (at_cells e1 1 rfl) (by simp)) (fun w' f => f.cell1 (at_cells e1 2 rfl) (by simp))
    (fun w' f => f.cell1 (at_cells e2 0 rfl) (by simp)) (fun w' f => f.cell1 (at_cells e2 1 rfl) (by simp)) (fun w' f => f.cell1 (at_cells e2 2 rfl) (by simp))
    (fun w' f => (ways_any w').mono fun e w1 ⟨a, b⟩ => ⟨a, f.trans b, b⟩)
    (fun w' f => (copiedCode_any w' B F fa fc mn mg (HCX.at_.fr f (by simp)) hnn (Nat.le_trans hBX f.size) hF hk hl).mono fun e w1 ⟨F', a, c, h1, h2, h3, h4, h5, h6⟩ => ⟨F', a, c, h1, ⟨h2, h3, h4, h5⟩, f.trans h6, h6⟩)
    (fun w' f => (clone54 w' ia im.length ic (im.map (Value.int .i64)) (by simp) (fun e => ⟨by have := HIX; rw [e] at this; rw [this.none]; rfl, hin e⟩) (HIX.fr f (by simp)).news (by intro u hu; simp at hu; obtain ⟨k, _, rfl⟩ := hu; rfl) (by omega)).mono fun e w1 ⟨v, h1, h2, h3⟩ => by
      obtain ⟨a, c, e1, _⟩ := own_slice h2
      subst e1
      exact ⟨a, c, h1, h2, f.trans h3, h3⟩)
    (fun w' f => (clone54 w' na inp.length nc (inp.map (Value.int .i64)) (by simp) (fun e => ⟨by have := HJX; rw [e] at this; rw [this.none]; rfl, hjn e⟩) (HJX.fr f (by simp)).news (by intro u hu; simp at hu; obtain ⟨k, _, rfl⟩ := hu; rfl) (by omega)).mono fun e w1 ⟨v, h1, h2, h3⟩ => by
      obtain ⟨a, c, e1, _⟩ := own_slice h2
      subst e1
      exact ⟨a, c, h1, h2, f.trans h3, h3⟩)
    (fun w' f => (heapNew cells w').mono fun e w1 ⟨a, b, c⟩ => ⟨a, b, f.trans c, c⟩) ?_
  intro w1 w2 w3 w4 w5 F' ga gc ja jc pa pc hb nb n23 n24 n25 n26 n27 n28 n29 n30 n31 n32 n33 n34 n35 n36 n37 n38 n39 n40 n41 K2 K3 K4 hhb hnb K5 E1 E2 E3 E4 E5
  have hlen : F'.length = F.length := by have := congrArg List.length K2.1; simpa using this
  have E24 : Fr [] w2 w4 := E3.trans E4
  have fat := copied_fat (B := B) K2.1 K2.2.1 K2.2.2.1 K2.2.2.2 hk hl hnl E24
  obtain ⟨fu', hfu', hab⟩ := abs_at K2.1 hfu
  have hrs' : fu'.rs = n := by rw [(abs_code hab).2.1]; exact hrs
  have HX : Hid (Fr [] w w5) := (((G.out.trans E1).trans E2).trans E24).trans E5
  have HX4 : Hid (Fr [] w w4) := ((G.out.trans E1).trans E2).trans E24
  rw [← hlen]
  have M0 : MAt (w5.alloc (.cells (mA (.slice ga F'.length gc) (.int .i64 mn) (.int .i64 mg) (.slice ja im.length jc) (.slice pa inp.length pc) (.int .i64 (cfF fuel)) (.int .i64 (cfD depth)) (.pointer (some ⟨hb, 0, none⟩)) (.slice none 0 0) (.int .i64 0) (.slice none 0 0) (.int .i64 0) (.int .i64 0) (.bool false) (.int .i64 0) (.int .i64 0) (.int .i64 0) (.int .i64 0)) 77)) w4.heap.size ⟨nb, hb, .slice none 0 0, [], .slice none 0 0, [], .slice none 0 0, F', ga, gc, ja, jc, pa, pc⟩ ⟨F.map Fu.abs, mn, mg, im, inp, cap0 cells, cfF fuel, cfD depth⟩ St.zero 0 := by
    subst hnb
    have FA : Fr [] w5 (w5.alloc (.cells (mA (.slice ga F'.length gc) (.int .i64 mn) (.int .i64 mg) (.slice ja im.length jc) (.slice pa inp.length pc) (.int .i64 (cfF fuel)) (.int .i64 (cfD depth)) (.pointer (some ⟨hb, 0, none⟩)) (.slice none 0 0) (.int .i64 0) (.slice none 0 0) (.int .i64 0) (.int .i64 0) (.bool false) (.int .i64 0) (.int .i64 0) (.int .i64 0) (.int .i64 0)) 77)) := (Fr.refl _ _).alloc _
    refine ⟨heap_alloc_new w5 _, E5.size, ⟨?_, rfl, rfl, World.ownsRow_nil _ _ _ _, fun i f v hi => by simp [St.zero] at hi, List.Pairwise.nil, fun v hv => by simp at hv, World.ownsRow_nil _ _ _ _, fat.fr (E5.trans FA) (by simp), K2.1, row_kat K3 ((E4.trans E5).trans FA) E4.size, row_kat K4 (E5.trans FA) (Nat.le_refl _)⟩⟩
    rw [← hhb]
    exact K5.frame FA (by simp)
  have HM : Hid (MAt _ w4.heap.size ⟨nb, hb, .slice none 0 0, [], .slice none 0 0, [], .slice none 0 0, F', ga, gc, ja, jc, pa, pc⟩ ⟨F.map Fu.abs, mn, mg, im, inp, cap0 cells, cfF fuel, cfD depth⟩ St.zero 0) := M0
  have FA : Hid (Fr [] w (w5.alloc (.cells (mA (.slice ga F'.length gc) (.int .i64 mn) (.int .i64 mg) (.slice ja im.length jc) (.slice pa inp.length pc) (.int .i64 (cfF fuel)) (.int .i64 (cfD depth)) (.pointer (some ⟨hb, 0, none⟩)) (.slice none 0 0) (.int .i64 0) (.slice none 0 0) (.int .i64 0) (.int .i64 0) (.bool false) (.int .i64 0) (.int .i64 0) (.int .i64 0) (.int .i64 0)) 77))) := HX.out.alloc _
  have hs54 : Hid (w4.heap.size ≤ (w5.alloc (.cells (mA (.slice ga F'.length gc) (.int .i64 mn) (.int .i64 mg) (.slice ja im.length jc) (.slice pa inp.length pc) (.int .i64 (cfF fuel)) (.int .i64 (cfD depth)) (.pointer (some ⟨hb, 0, none⟩)) (.slice none 0 0) (.int .i64 0) (.slice none 0 0) (.int .i64 0) (.int .i64 0) (.bool false) (.int .i64 0) (.int .i64 0) (.int .i64 0) (.int .i64 0)) 77)).heap.size) := by unfold Hid; rw [World.size_alloc]; exact Nat.le_trans E5.size (Nat.le_succ _)
  generalize w5.alloc (.cells (mA (.slice ga F'.length gc) (.int .i64 mn) (.int .i64 mg) (.slice ja im.length jc) (.slice pa inp.length pc) (.int .i64 (cfF fuel)) (.int .i64 (cfD depth)) (.pointer (some ⟨hb, 0, none⟩)) (.slice none 0 0) (.int .i64 0) (.slice none 0 0) (.int .i64 0) (.int .i64 0) (.bool false) (.int .i64 0) (.int .i64 0) (.int .i64 0) (.int .i64 0)) 77) = Y at *
  have c31 : Y.cell? ⟨nb, 31, none⟩ = some (.int .i64 (i : Int)) := by rw [← HMN.out]; exact at_cells M0.blk 31 rfl
  have CE := enter_mk M0 (i := i) (fu := fu') hfu' hrs' (by omega) (-1) (by show F'.length ≤ 2000000; rw [hlen]; exact hF) hs54.out (by simp [St.zero])
  have HABS : Hid (F'.map Fu.abs = F.map Fu.abs) := K2.1
  have HHB : Hid (w.heap.size ≤ hb ∧ w.heap.size ≤ nb ∧ w.heap.size ≤ w4.heap.size) := ⟨by rw [hhb]; exact HX4.out.size, by rw [hnb]; exact HX.out.size, HX4.out.size⟩
  clear c0 c1 c2 HF2 HCC HII HB12 e1 e2 fX HCX HIX HJX K2 K3 K4 K5 E1 E2 E3 E4 E5 E24 fat M0 hfu hfu' hrs hrs' hab hhb hnb hk hl hnl hin hjn hnn
  go_wp2_with fail
  with_reducible (refine CE.mono ?_)
  rintro e Z ⟨rv, v3, rfl, MZ, FZ, KZ⟩
  have HZ : Hid (MAt Z w4.heap.size (MP.push ⟨nb, hb, .slice none 0 0, [], .slice none 0 0, [], .slice none 0 0, F', ga, gc, ja, jc, pa, pc⟩ v3 rv) ⟨F.map Fu.abs, mn, mg, im, inp, cap0 cells, cfF fuel, cfD depth⟩ (St.start i n) 0) := MZ
  have HFZ : Hid (Fr (footM ⟨nb, hb, .slice none 0 0, [], .slice none 0 0, [], .slice none 0 0, F', ga, gc, ja, jc, pa, pc⟩) Y Z) := FZ
  have HKZ : Hid (∀ k ∈ footM (MP.push ⟨nb, hb, .slice none 0 0, [], .slice none 0 0, [], .slice none 0 0, F', ga, gc, ja, jc, pa, pc⟩ v3 rv), w.heap.size ≤ k) := fun k hk => by
    rcases KZ k hk with h1 | h1
    · simp [footM, rfootM, Value.ownBlock] at h1
      rcases h1 with rfl | rfl
      · exact HHB.out.2.1
      · exact HHB.out.1
    · exact Nat.le_trans FA.out.size h1
  clear CE MZ FZ KZ c31
  go_wp2
  refine bodyPost_ret (results_tmp2 rfl _ _ _) rfl ⟨MP.push ⟨nb, hb, .slice none 0 0, [], .slice none 0 0, [], .slice none 0 0, F', ga, gc, ja, jc, pa, pc⟩ v3 rv, w4.heap.size, rfl, HZ.out, HHB.out.2.2, ?_, HABS.out, ?_, HKZ.out⟩
  · exact Nat.le_trans hs54.out HFZ.out.size
  · refine FA.out.next HFZ.out (fun k hk => .inr ?_)
    simp [footM, rfootM, Value.ownBlock] at hk
    rcases hk with rfl | rfl
    · exact HHB.out.2.1
    · exact HHB.out.1
end Go.Proofs.YtkjkpkmmojchiaaGreatDoor
