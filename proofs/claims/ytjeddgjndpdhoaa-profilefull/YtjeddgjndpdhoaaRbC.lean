/-
  The document's book: the regions of drop, Ban and Hit that draw their order; conditions: the book lies as told.
-/
import Derived.Test.YtjeddgjndpdhoaaRbB
namespace Go.Proofs.Ytjeddgjndpdhoaa
open Go.RowKit
set_option linter.unusedVariables false
set_option linter.unusedSimpArgs false
theorem ti64 : ∃ i z, Try.prog.info? 64 = some i ∧ i.zero = some z ∧ i.size = 11 ∧ i.bytes = 88 ∧ z.cells.size = 11 := by
  have h : (Try.prog.info? 64).map (fun i => (i.zero, i.size, i.bytes)) = some (some (.agg #[.int .i64 0, .int .i64 0, .int .i64 0, .int .i64 0, .int .i64 0, .int .i64 0, .int .i64 0, .int .i64 0, .int .i64 0, .int .i64 0, .int .i64 0]), 11, 88) := by kernel_rfl
  cases e : Try.prog.info? 64 with
  | none => rw [e] at h; cases h
  | some i =>
    rw [e] at h
    simp at h
    exact ⟨i, _, rfl, h.1, h.2.1, h.2.2, rfl⟩
theorem ti28 : ∃ i z, Try.prog.info? 28 = some i ∧ i.zero = some z ∧ i.size = 10 ∧ i.bytes = 80 ∧ z.cells.size = 10 := by
  have h : (Try.prog.info? 28).map (fun i => (i.zero, i.size, i.bytes)) = some (some (.agg #[.int .i64 0, .int .i64 0, .int .i64 0, .int .i64 0, .int .i64 0, .int .i64 0, .int .i64 0, .int .i64 0, .int .i64 0, .int .i64 0]), 10, 80) := by kernel_rfl
  cases e : Try.prog.info? 28 with
  | none => rw [e] at h; cases h
  | some i =>
    rw [e] at h
    simp at h
    exact ⟨i, _, rfl, h.1, h.2.1, h.2.2, rfl⟩
theorem slice_upto (w : World) (g N c i : Nat) (h : i ≤ c) : (Instr.sliceAt 43 (.slice (some ⟨g, 0, none⟩) N c) none (some (.int .i64 (i : Nat))) none).run Try.prog w = .ok (.slice (some ⟨g, 0, none⟩) i c) w := by
  have ht : Try.prog.underlying 43 = some (.slice (Try.prog.elem 43)) := by kernel_rfl
  have hz : (sizeOf (Try.prog.elem 43)).run Try.prog w = .ok 11 w := by kernel_rfl
  rw [run_sliceAt_slice w 43 _ _ _ _ ht, run_slice_h w 43 _ _ _ ht _ _ (by omega) (by omega), hz]
  simp [Result.andThen, sliced, Addr.add]
theorem slice_from (g N c i : Nat) (h : i + 1 ≤ N) (hc : N ≤ c) : ∃ ad : Addr, (∀ w, (Instr.sliceAt 43 (.slice (some ⟨g, 0, none⟩) N c) (some (.int .i64 ((i : Int) + 1))) none none).run Try.prog w = .ok (.slice (some ad) (N - (i + 1)) (c - (i + 1))) w) ∧ (i + 1 < c → ad = ⟨g, (i + 1) * 11, none⟩) := by
  have ht : Try.prog.underlying 43 = some (.slice (Try.prog.elem 43)) := by kernel_rfl
  have hz : ∀ w, (sizeOf (Try.prog.elem 43)).run Try.prog w = .ok 11 w := fun w => by kernel_rfl
  have hn : ((i : Int) + 1).toNat = i + 1 := by omega
  by_cases e : c = i + 1
  · refine ⟨⟨g, 0, none⟩, fun w => ?_, fun h => by omega⟩
    rw [run_sliceAt_slice w 43 _ _ _ _ ht, run_slice_l w 43 _ _ _ ht _ _ (by omega) (by omega), hz]
    simp [Result.andThen, sliced, hn, e]
  · refine ⟨⟨g, (i + 1) * 11, none⟩, fun w => ?_, fun _ => rfl⟩
    rw [run_sliceAt_slice w 43 _ _ _ _ ht, run_slice_l w 43 _ _ _ ht _ _ (by omega) (by omega), hz]
    simp [Result.andThen, sliced, hn, e, Addr.add]
theorem add_off (g o j : Nat) : (⟨g, o, none⟩ : Addr).add j = ⟨g, o + j, none⟩ := by unfold Addr.add; split <;> simp_all
theorem rc_one {r : Rw} {u : Value} (h : u ∈ rc r) : u.oneCell' = true := by
  have := ra_one r
  rw [Array.all_eq_true'] at this
  exact this u (by simpa [ra] using h)
theorem flat_one {L : List Rw} {u : Value} (h : u ∈ L.flatMap rc) : u.oneCell' = true := by
  obtain ⟨r, _, hu⟩ := List.mem_flatMap.1 h
  exact rc_one hu
theorem own_read {w : World} {B n : Nat} {e : TypeId} {size g c : Nat} {xs : List Value} (h : w.ownsRow B e size (.slice (some ⟨g, 0, none⟩) n c) n xs) {j : Nat} {x : Value} (hx : xs[j]? = some x) : w.cell? ⟨g, j, none⟩ = some x := by
  obtain ⟨g', c', e1, h2, _⟩ := own_cells h hx
  cases e1
  exact h2

theorem wrap1 {i : Nat} (h : (i : Int) ≤ 100000) : IntKind.i64.wrap ((i : Int) + 1) = (i : Int) + 1 := by
  first
  | (simp [IntKind.wrap, IntKind.bits, IntKind.signed]; omega)
  | (unfold IntKind.wrap; simp; omega)
  | (go_simp; omega)
theorem yields_slice {a : Act} {o : Oper} {w : World} {t : TypeId} {x : Operand} {lo hi mx : Option Operand} {v : Value} (ho : o.op = .slice t x lo hi mx) (hr : (Instr.sliceAt t (a.eval x) (lo.map a.eval) (hi.map a.eval) (mx.map a.eval)).run Try.prog w = .ok v w) : (execOp a.eval o).run Try.prog w = .ok (.value v) w := by
  unfold execOp
  simp only [ho, Sem.run_bind, Sem.run_pure, hr, Result.andThen_ok]
theorem src_take {W : World} {B g N c i : Nat} {L : List Rw} (ho : W.ownsRow B 64 11 (.slice (some ⟨g, 0, none⟩) N c) N (L.flatMap rc)) : ∀ ad' : Addr, some (⟨g, 0, none⟩ : Addr) = some ad' → ∀ j u, ((L.take i).flatMap rc)[j]? = some u → W.cell? (ad'.add j) = some u := by
  intro ad' hh j u hu
  cases hh
  rw [add_off, Nat.zero_add]
  refine own_read ho ?_
  rw [← flat_take rc_len, List.getElem?_take] at hu
  split at hu
  · exact hu
  · cases hu
theorem src_drop {W : World} {B g N c i : Nat} {L : List Rw} {ad : Addr} (ho : W.ownsRow B 64 11 (.slice (some ⟨g, 0, none⟩) N c) N (L.flatMap rc)) (hN : N = L.length) (hNc : N ≤ c) (had : i + 1 < c → ad = ⟨g, (i + 1) * 11, none⟩) : ∀ ad' : Addr, some ad = some ad' → ∀ j u, ((L.drop (i + 1)).flatMap rc)[j]? = some u → W.cell? (ad'.add j) = some u := by
  intro ad' hh j u hu
  cases hh
  have hlt := (List.getElem?_eq_some_iff.1 hu).1
  rw [flat_len rc_len, List.length_drop] at hlt
  have hpos : i + 1 < N := by omega
  rw [had (by omega), add_off]
  refine own_read ho ?_
  rw [← flat_drop rc_len, List.getElem?_drop] at hu
  exact hu

set_option maxRecDepth 100000 in
set_option maxHeartbeats 4000000 in
theorem reg25 {X : World} {rb g N c i B : Nat} {L : List Rw} (hc : ∀ w', Fr [] X w' → w'.cell? ⟨rb, 0, none⟩ = some (.slice (some ⟨g, 0, none⟩) N c)) (hfz : ∀ w', Fr [] X w' → w'.frozen? ⟨rb, 0, none⟩ = false) (ho : X.ownsRow B 64 11 (.slice (some ⟨g, 0, none⟩) N c) N (L.flatMap rc)) (hN : Hid (N = L.length)) (hi : i < N) (hN2 : N ≤ 100000) (hNc : N ≤ c)
    {Q : Exit → Act → World → Prop} {u2 u3 u4 u5 u6 u7 u8 u9 u10 u11 u12 u13 u14 u15 u16 u17 u18 u19 u20 u21 : Value}
    (h : ∀ n4 n5 n6 n7 n8 n9 n10 n11 n12 n13 n14 n15 n16 n17 n18 n19 n20 n21 X2 fa' fc', Fr [] X X2 → X2.ownsRow X.heap.size 64 11 (.slice fa' (i + (N - (i + 1))) fc') (i + (N - (i + 1))) ((L.take i).flatMap rc ++ (L.drop (i + 1)).flatMap rc) → Q .normal { tmps := #[.pointer (some ⟨rb, 0, none⟩), .int .i64 (i : Nat), u2, u3, n4, n5, n6, n7, n8, n9, n10, n11, n12, n13, n14, n15, n16, n17, n18, n19, n20, n21], defers := [] } (X2.setCell ⟨rb, 0, none⟩ (.slice fa' (i + (N - (i + 1))) fc'))) :
    (Code.region 0 #[{ dst := some 4, op := Op.move (Operand.tmp 0), type := 35, pos := "ref.go:61", after := #[], guard := none }, { dst := some 5, op := Op.move (Operand.tmp 0), type := 35, pos := "ref.go:61", after := #[], guard := none }, { dst := some 6, op := Op.nilCheck (Operand.tmp 5), type := 0, pos := "ref.go:61", after := #[{ on := 1, ground := Ground.data }], guard := none }, { dst := some 7, op := Op.fieldAddr 46 (Operand.tmp 6) 0, type := 0, pos := "ref.go:61", after := #[{ on := 2, ground := Ground.data }], guard := none }, { dst := some 8, op := Op.load 43 (Operand.tmp 7), type := 43, pos := "ref.go:61", after := #[{ on := 3, ground := Ground.data }], guard := none }, { dst := some 9, op := Op.move (Operand.tmp 1), type := 3, pos := "ref.go:61", after := #[], guard := none }, { dst := some 10, op := Op.slice 43 (Operand.tmp 8) none (some (Operand.tmp 9)) none, type := 43, pos := "ref.go:61", after := #[{ on := 4, ground := Ground.data }, { on := 5, ground := Ground.data }], guard := none }, { dst := some 11, op := Op.call { callee := Callee.builtin Builtin.append, args := #[Operand.const (Value.slice none 0 0), Operand.tmp 10], argTypes := #[43, 43] }, type := 43, pos := "ref.go:61", after := #[{ on := 6, ground := Ground.data }], guard := none }, { dst := some 12, op := Op.move (Operand.tmp 0), type := 35, pos := "ref.go:61", after := #[], guard := none }, { dst := some 13, op := Op.nilCheck (Operand.tmp 12), type := 0, pos := "ref.go:61", after := #[{ on := 8, ground := Ground.data }], guard := none }, { dst := some 14, op := Op.fieldAddr 46 (Operand.tmp 13) 0, type := 0, pos := "ref.go:61", after := #[{ on := 9, ground := Ground.data }], guard := none }, { dst := some 15, op := Op.load 43 (Operand.tmp 14), type := 43, pos := "ref.go:61", after := #[{ on := 10, ground := Ground.data }], guard := none }, { dst := some 16, op := Op.move (Operand.tmp 1), type := 3, pos := "ref.go:61", after := #[], guard := none }, { dst := some 17, op := Op.binOp BinOp.add 3 (Operand.tmp 16) (Operand.const (Value.int IntKind.i64 1)) 3, type := 3, pos := "ref.go:61", after := #[{ on := 12, ground := Ground.data }], guard := none }, { dst := some 18, op := Op.slice 43 (Operand.tmp 15) (some (Operand.tmp 17)) none none, type := 43, pos := "ref.go:61", after := #[{ on := 11, ground := Ground.data }, { on := 13, ground := Ground.data }], guard := none }, { dst := some 19, op := Op.call { callee := Callee.builtin Builtin.append, args := #[Operand.tmp 11, Operand.tmp 18], argTypes := #[43, 43] }, type := 43, pos := "ref.go:61", after := #[{ on := 7, ground := Ground.data }, { on := 14, ground := Ground.data }, { on := 7, ground := Ground.chain }], guard := none }, { dst := some 20, op := Op.nilCheck (Operand.tmp 4), type := 0, pos := "ref.go:61", after := #[{ on := 0, ground := Ground.data }, { on := 0, ground := Ground.phase }, { on := 1, ground := Ground.phase }, { on := 2, ground := Ground.phase }, { on := 3, ground := Ground.phase }, { on := 4, ground := Ground.phase }, { on := 5, ground := Ground.phase }, { on := 6, ground := Ground.phase }, { on := 7, ground := Ground.phase }, { on := 8, ground := Ground.phase }, { on := 9, ground := Ground.phase }, { on := 10, ground := Ground.phase }, { on := 11, ground := Ground.phase }, { on := 12, ground := Ground.phase }, { on := 13, ground := Ground.phase }, { on := 14, ground := Ground.phase }, { on := 15, ground := Ground.phase }], guard := none }, { dst := some 21, op := Op.fieldAddr 46 (Operand.tmp 20) 0, type := 0, pos := "ref.go:61", after := #[{ on := 16, ground := Ground.data }, { on := 0, ground := Ground.phase }, { on := 1, ground := Ground.phase }, { on := 2, ground := Ground.phase }, { on := 3, ground := Ground.phase }, { on := 4, ground := Ground.phase }, { on := 5, ground := Ground.phase }, { on := 6, ground := Ground.phase }, { on := 7, ground := Ground.phase }, { on := 8, ground := Ground.phase }, { on := 9, ground := Ground.phase }, { on := 10, ground := Ground.phase }, { on := 11, ground := Ground.phase }, { on := 12, ground := Ground.phase }, { on := 13, ground := Ground.phase }, { on := 14, ground := Ground.phase }, { on := 15, ground := Ground.phase }], guard := none }, { dst := none, op := Op.store 43 (Operand.tmp 21) (Operand.tmp 19), type := 0, pos := "ref.go:61", after := #[{ on := 17, ground := Ground.data }, { on := 15, ground := Ground.data }, { on := 15, ground := Ground.chain }, { on := 0, ground := Ground.phase }, { on := 1, ground := Ground.phase }, { on := 2, ground := Ground.phase }, { on := 3, ground := Ground.phase }, { on := 4, ground := Ground.phase }, { on := 5, ground := Ground.phase }, { on := 6, ground := Ground.phase }, { on := 7, ground := Ground.phase }, { on := 8, ground := Ground.phase }, { on := 9, ground := Ground.phase }, { on := 10, ground := Ground.phase }, { on := 11, ground := Ground.phase }, { on := 12, ground := Ground.phase }, { on := 13, ground := Ground.phase }, { on := 14, ground := Ground.phase }, { on := 15, ground := Ground.phase }], guard := none }] true).wp Try.prog Q { tmps := #[.pointer (some ⟨rb, 0, none⟩), .int .i64 (i : Nat), u2, u3, u4, u5, u6, u7, u8, u9, u10, u11, u12, u13, u14, u15, u16, u17, u18, u19, u20, u21], defers := [] } X := by
  obtain ⟨i64, z64, ti, tz, tsz, tby, tzs⟩ := ti64
  obtain ⟨ad, hsl, had⟩ := slice_from g N c i hi hNc
  have hic : i ≤ c := by omega
  have hiI : (i : Int) ≤ 100000 := by omega
  have hwr : IntKind.i64.wrap ((i : Int) + 1) = (i : Int) + 1 := wrap1 hiI
  refine wp_mono (Q := Plain (fun a w => Q .normal a w)) ?_ (fun e a w h => by obtain ⟨rfl, h2⟩ := h; exact h2)
  refine wp_region_held (S := fun _ => True) (by kernel_rfl) ?_
  change wpAnyH _ _ _ _ _ _ _ _ X.drew
  have F : Fr [] X X.drew := Fr.drew (Fr.refl _ X)
  generalize X.drew = Y at *
  have hS : True := trivial
  refine wpAnyH_take (i := 0) (oi := { dst := some 4, op := Op.move (Operand.tmp 0), type := 35, pos := "ref.go:61", after := #[], guard := none }) (v := .pointer (some ⟨rb, 0, none⟩)) rfl (by decide +kernel) (by decide +kernel) (by decide +kernel) (fun _ _ _ h => absurd h.1 (by simp)) (Or.inl ⟨by rfl, fun wq hSq => by first | rfl | go_simp⟩) hS ?_
  simp only [Act.put, List.setIfInBounds_toArray, List.set_cons_zero, List.set_cons_succ]
  refine wpAnyH_take (i := 1) (oi := { dst := some 5, op := Op.move (Operand.tmp 0), type := 35, pos := "ref.go:61", after := #[], guard := none }) (v := .pointer (some ⟨rb, 0, none⟩)) rfl (by decide +kernel) (by decide +kernel) (by decide +kernel) (fun _ _ _ h => absurd h.1 (by simp)) (Or.inl ⟨by rfl, fun wq hSq => by first | rfl | go_simp⟩) hS ?_
  simp only [Act.put, List.setIfInBounds_toArray, List.set_cons_zero, List.set_cons_succ]
  refine wpAnyH_take (i := 2) (oi := { dst := some 6, op := Op.nilCheck (Operand.tmp 5), type := 0, pos := "ref.go:61", after := #[{ on := 1, ground := Ground.data }], guard := none }) (v := .pointer (some ⟨rb, 0, none⟩)) rfl (by decide +kernel) (by decide +kernel) (by decide +kernel) (fun _ _ _ h => absurd h.1 (by simp)) (Or.inl ⟨by rfl, fun wq hSq => by first | rfl | go_simp⟩) hS ?_
  simp only [Act.put, List.setIfInBounds_toArray, List.set_cons_zero, List.set_cons_succ]
  refine wpAnyH_take (i := 3) (oi := { dst := some 7, op := Op.fieldAddr 46 (Operand.tmp 6) 0, type := 0, pos := "ref.go:61", after := #[{ on := 2, ground := Ground.data }], guard := none }) (v := .pointer (some ⟨rb, 0, none⟩)) rfl (by decide +kernel) (by decide +kernel) (by decide +kernel) (fun _ _ _ h => absurd h.1 (by simp)) (Or.inl ⟨by rfl, fun wq hSq => by first | rfl | go_simp⟩) hS ?_
  simp only [Act.put, List.setIfInBounds_toArray, List.set_cons_zero, List.set_cons_succ]
  refine wpAnyH_take (i := 5) (oi := { dst := some 9, op := Op.move (Operand.tmp 1), type := 3, pos := "ref.go:61", after := #[], guard := none }) (v := .int .i64 (i : Nat)) rfl (by decide +kernel) (by decide +kernel) (by decide +kernel) (fun _ _ _ h => absurd h.1 (by simp)) (Or.inl ⟨by rfl, fun wq hSq => by first | rfl | go_simp⟩) hS ?_
  simp only [Act.put, List.setIfInBounds_toArray, List.set_cons_zero, List.set_cons_succ]
  refine wpAnyH_take (i := 8) (oi := { dst := some 12, op := Op.move (Operand.tmp 0), type := 35, pos := "ref.go:61", after := #[], guard := none }) (v := .pointer (some ⟨rb, 0, none⟩)) rfl (by decide +kernel) (by decide +kernel) (by decide +kernel) (fun _ _ _ h => absurd h.1 (by simp)) (Or.inl ⟨by rfl, fun wq hSq => by first | rfl | go_simp⟩) hS ?_
  simp only [Act.put, List.setIfInBounds_toArray, List.set_cons_zero, List.set_cons_succ]
  refine wpAnyH_take (i := 9) (oi := { dst := some 13, op := Op.nilCheck (Operand.tmp 12), type := 0, pos := "ref.go:61", after := #[{ on := 8, ground := Ground.data }], guard := none }) (v := .pointer (some ⟨rb, 0, none⟩)) rfl (by decide +kernel) (by decide +kernel) (by decide +kernel) (fun _ _ _ h => absurd h.1 (by simp)) (Or.inl ⟨by rfl, fun wq hSq => by first | rfl | go_simp⟩) hS ?_
  simp only [Act.put, List.setIfInBounds_toArray, List.set_cons_zero, List.set_cons_succ]
  refine wpAnyH_take (i := 10) (oi := { dst := some 14, op := Op.fieldAddr 46 (Operand.tmp 13) 0, type := 0, pos := "ref.go:61", after := #[{ on := 9, ground := Ground.data }], guard := none }) (v := .pointer (some ⟨rb, 0, none⟩)) rfl (by decide +kernel) (by decide +kernel) (by decide +kernel) (fun _ _ _ h => absurd h.1 (by simp)) (Or.inl ⟨by rfl, fun wq hSq => by first | rfl | go_simp⟩) hS ?_
  simp only [Act.put, List.setIfInBounds_toArray, List.set_cons_zero, List.set_cons_succ]
  refine wpAnyH_take (i := 12) (oi := { dst := some 16, op := Op.move (Operand.tmp 1), type := 3, pos := "ref.go:61", after := #[], guard := none }) (v := .int .i64 (i : Nat)) rfl (by decide +kernel) (by decide +kernel) (by decide +kernel) (fun _ _ _ h => absurd h.1 (by simp)) (Or.inl ⟨by rfl, fun wq hSq => by first | rfl | go_simp⟩) hS ?_
  simp only [Act.put, List.setIfInBounds_toArray, List.set_cons_zero, List.set_cons_succ]
  refine wpAnyH_take (i := 13) (oi := { dst := some 17, op := Op.binOp BinOp.add 3 (Operand.tmp 16) (Operand.const (Value.int IntKind.i64 1)) 3, type := 3, pos := "ref.go:61", after := #[{ on := 12, ground := Ground.data }], guard := none }) (v := .int .i64 ((i : Int) + 1)) rfl (by decide +kernel) (by decide +kernel) (by decide +kernel) (fun _ _ _ h => absurd h.1 (by simp)) (Or.inl ⟨by rfl, fun wq hSq => by go_simp⟩) hS ?_
  simp only [Act.put, List.setIfInBounds_toArray, List.set_cons_zero, List.set_cons_succ]
  refine wpAnyH_ready (rs := [4, 11]) (by decide +kernel) (by simp) ?_
  refine AllReadyH.cons (o := { dst := some 8, op := Op.load 43 (Operand.tmp 7), type := 43, pos := "ref.go:61", after := #[{ on := 3, ground := Ground.data }], guard := none }) rfl (fun K hK => ?_) ?_
  · skip
    have q1 := hc _ F
    go_simp
    refine hK.out _ _ hS (fun _ => ?_)
    clear hK K
    try simp only [Act.put, List.setIfInBounds_toArray, List.set_cons_zero, List.set_cons_succ]
    refine wpAnyH_take (i := 6) (oi := { dst := some 10, op := Op.slice 43 (Operand.tmp 8) none (some (Operand.tmp 9)) none, type := 43, pos := "ref.go:61", after := #[{ on := 4, ground := Ground.data }, { on := 5, ground := Ground.data }], guard := none }) (v := .slice (some ⟨g, 0, none⟩) i c) rfl (by decide +kernel) (by decide +kernel) (by decide +kernel) (fun _ _ _ h => absurd h.1 (by simp)) (Or.inl ⟨by rfl, fun wq hSq => yields_slice rfl (slice_upto wq g N c i hic)⟩) hS ?_
    simp only [Act.put, List.setIfInBounds_toArray, List.set_cons_zero, List.set_cons_succ]
    refine wpAnyH_ready (rs := [7, 11]) (by decide +kernel) (by simp) ?_
    refine AllReadyH.cons (o := { dst := some 11, op := Op.call { callee := Callee.builtin Builtin.append, args := #[Operand.const (Value.slice none 0 0), Operand.tmp 10], argTypes := #[43, 43] }, type := 43, pos := "ref.go:61", after := #[{ on := 6, ground := Ground.data }], guard := none }) rfl (fun K hK => ?_) ?_
    · skip
      refine step_append_src rfl (.const (.slice none 0 0)) (.tmp 10) 43 rfl X.heap.size 64 i64 z64 11 88 Try.underlying43 ti tz tsz tby tzs (by decide) (.slice none 0 0) 0 [] rfl (World.ownsRow_nil _ _ _ _) (some ⟨g, 0, none⟩) i c ((L.take i).flatMap rc) rfl (by rw [flat_len rc_len, List.length_take, ← hN.out, Nat.min_eq_left (by omega)]) (by simp) (src_take (own_fr ho F (by simp))) (fun u hu => flat_one hu) (by unfold maxLen; omega) (by omega) F.size ?_
      intro v7 W7 o7 g7 l7
      rw [Nat.zero_add, List.nil_append] at o7
      have F : Fr [] X W7 := F.trans (Fr.ofGrown g7)
      refine hK.out _ _ hS (fun _ => ?_)
      clear hK K
      try simp only [Act.put, List.setIfInBounds_toArray, List.set_cons_zero, List.set_cons_succ]
      refine wpAnyH_ready (rs := [11]) (by decide +kernel) (by simp) ?_
      refine AllReadyH.cons (o := { dst := some 15, op := Op.load 43 (Operand.tmp 14), type := 43, pos := "ref.go:61", after := #[{ on := 10, ground := Ground.data }], guard := none }) rfl (fun K hK => ?_) AllReadyH.nil
      have q1 := hc _ F
      go_simp
      refine hK.out _ _ hS (fun _ => ?_)
      clear hK K
      try simp only [Act.put, List.setIfInBounds_toArray, List.set_cons_zero, List.set_cons_succ]
      refine wpAnyH_take (i := 14) (oi := { dst := some 18, op := Op.slice 43 (Operand.tmp 15) (some (Operand.tmp 17)) none none, type := 43, pos := "ref.go:61", after := #[{ on := 11, ground := Ground.data }, { on := 13, ground := Ground.data }], guard := none }) (v := .slice (some ad) (N - (i + 1)) (c - (i + 1))) rfl (by decide +kernel) (by decide +kernel) (by decide +kernel) (fun _ _ _ h => absurd h.1 (by simp)) (Or.inl ⟨by rfl, fun wq hSq => yields_slice rfl (hsl wq)⟩) hS ?_
      simp only [Act.put, List.setIfInBounds_toArray, List.set_cons_zero, List.set_cons_succ]
      refine wpAnyH_ready (rs := [15]) (by decide +kernel) (by simp) ?_
      refine AllReadyH.cons (o := { dst := some 19, op := Op.call { callee := Callee.builtin Builtin.append, args := #[Operand.tmp 11, Operand.tmp 18], argTypes := #[43, 43] }, type := 43, pos := "ref.go:61", after := #[{ on := 7, ground := Ground.data }, { on := 14, ground := Ground.data }, { on := 7, ground := Ground.chain }], guard := none }) rfl (fun K hK => ?_) AllReadyH.nil
      refine step_append_src rfl (.tmp 11) (.tmp 18) 43 rfl X.heap.size 64 i64 z64 11 88 Try.underlying43 ti tz tsz tby tzs (by decide) v7 i ((L.take i).flatMap rc) rfl o7 (some ad) (N - (i + 1)) (c - (i + 1)) ((L.drop (i + 1)).flatMap rc) rfl (by rw [flat_len rc_len, List.length_drop, ← hN.out]) (by simp) (src_drop (own_fr ho F (by simp)) hN.out hNc had) (fun u hu => flat_one hu) (by unfold maxLen; omega) (by omega) F.size ?_
      intro v15 W15 o15 g15 l15
      have F : Fr [] X W15 := F.over (Fr.ofGrown g15) (fun k hk => .inr (own_type o7 (by simpa using hk)).1)
      refine hK.out _ _ hS (fun _ => ?_)
      clear hK K
      try simp only [Act.put, List.setIfInBounds_toArray, List.set_cons_zero, List.set_cons_succ]
      refine wpAnyH_take (i := 16) (oi := { dst := some 20, op := Op.nilCheck (Operand.tmp 4), type := 0, pos := "ref.go:61", after := #[{ on := 0, ground := Ground.data }, { on := 0, ground := Ground.phase }, { on := 1, ground := Ground.phase }, { on := 2, ground := Ground.phase }, { on := 3, ground := Ground.phase }, { on := 4, ground := Ground.phase }, { on := 5, ground := Ground.phase }, { on := 6, ground := Ground.phase }, { on := 7, ground := Ground.phase }, { on := 8, ground := Ground.phase }, { on := 9, ground := Ground.phase }, { on := 10, ground := Ground.phase }, { on := 11, ground := Ground.phase }, { on := 12, ground := Ground.phase }, { on := 13, ground := Ground.phase }, { on := 14, ground := Ground.phase }, { on := 15, ground := Ground.phase }], guard := none }) (v := .pointer (some ⟨rb, 0, none⟩)) rfl (by decide +kernel) (by decide +kernel) (by decide +kernel) (fun _ _ _ h => absurd h.1 (by simp)) (Or.inl ⟨by rfl, fun wq hSq => by first | rfl | go_simp⟩) hS ?_
      simp only [Act.put, List.setIfInBounds_toArray, List.set_cons_zero, List.set_cons_succ]
      refine wpAnyH_take (i := 17) (oi := { dst := some 21, op := Op.fieldAddr 46 (Operand.tmp 20) 0, type := 0, pos := "ref.go:61", after := #[{ on := 16, ground := Ground.data }, { on := 0, ground := Ground.phase }, { on := 1, ground := Ground.phase }, { on := 2, ground := Ground.phase }, { on := 3, ground := Ground.phase }, { on := 4, ground := Ground.phase }, { on := 5, ground := Ground.phase }, { on := 6, ground := Ground.phase }, { on := 7, ground := Ground.phase }, { on := 8, ground := Ground.phase }, { on := 9, ground := Ground.phase }, { on := 10, ground := Ground.phase }, { on := 11, ground := Ground.phase }, { on := 12, ground := Ground.phase }, { on := 13, ground := Ground.phase }, { on := 14, ground := Ground.phase }, { on := 15, ground := Ground.phase }], guard := none }) (v := .pointer (some ⟨rb, 0, none⟩)) rfl (by decide +kernel) (by decide +kernel) (by decide +kernel) (fun _ _ _ h => absurd h.1 (by simp)) (Or.inl ⟨by rfl, fun wq hSq => by first | rfl | go_simp⟩) hS ?_
      simp only [Act.put, List.setIfInBounds_toArray, List.set_cons_zero, List.set_cons_succ]
      refine wpAnyH_ready (rs := [18]) (by decide +kernel) (by simp) ?_
      refine AllReadyH.cons (o := { dst := none, op := Op.store 43 (Operand.tmp 21) (Operand.tmp 19), type := 0, pos := "ref.go:61", after := #[{ on := 17, ground := Ground.data }, { on := 15, ground := Ground.data }, { on := 15, ground := Ground.chain }, { on := 0, ground := Ground.phase }, { on := 1, ground := Ground.phase }, { on := 2, ground := Ground.phase }, { on := 3, ground := Ground.phase }, { on := 4, ground := Ground.phase }, { on := 5, ground := Ground.phase }, { on := 6, ground := Ground.phase }, { on := 7, ground := Ground.phase }, { on := 8, ground := Ground.phase }, { on := 9, ground := Ground.phase }, { on := 10, ground := Ground.phase }, { on := 11, ground := Ground.phase }, { on := 12, ground := Ground.phase }, { on := 13, ground := Ground.phase }, { on := 14, ground := Ground.phase }, { on := 15, ground := Ground.phase }], guard := none }) rfl (fun K hK => ?_) AllReadyH.nil
      obtain ⟨fa', fc', rfl, _⟩ := own_slice o15
      have q2 := hc _ F
      have z := hfz _ F
      go_simp
      refine hK.out _ _ hS (fun _ => ?_)
      clear hK K
      try simp only [Act.put, List.setIfInBounds_toArray, List.set_cons_zero, List.set_cons_succ]
      refine wpAnyH_done (by decide +kernel) ?_ _
      exact ⟨rfl, h _ _ _ _ _ _ _ _ _ _ _ _ _ _ _ _ _ _ _ _ _ F o15⟩
    refine AllReadyH.cons (o := { dst := some 15, op := Op.load 43 (Operand.tmp 14), type := 43, pos := "ref.go:61", after := #[{ on := 10, ground := Ground.data }], guard := none }) rfl (fun K hK => ?_) AllReadyH.nil
    have q1 := hc _ F
    go_simp
    refine hK.out _ _ hS (fun _ => ?_)
    clear hK K
    try simp only [Act.put, List.setIfInBounds_toArray, List.set_cons_zero, List.set_cons_succ]
    refine wpAnyH_take (i := 14) (oi := { dst := some 18, op := Op.slice 43 (Operand.tmp 15) (some (Operand.tmp 17)) none none, type := 43, pos := "ref.go:61", after := #[{ on := 11, ground := Ground.data }, { on := 13, ground := Ground.data }], guard := none }) (v := .slice (some ad) (N - (i + 1)) (c - (i + 1))) rfl (by decide +kernel) (by decide +kernel) (by decide +kernel) (fun _ _ _ h => absurd h.1 (by simp)) (Or.inl ⟨by rfl, fun wq hSq => yields_slice rfl (hsl wq)⟩) hS ?_
    simp only [Act.put, List.setIfInBounds_toArray, List.set_cons_zero, List.set_cons_succ]
    refine wpAnyH_ready (rs := [7]) (by decide +kernel) (by simp) ?_
    refine AllReadyH.cons (o := { dst := some 11, op := Op.call { callee := Callee.builtin Builtin.append, args := #[Operand.const (Value.slice none 0 0), Operand.tmp 10], argTypes := #[43, 43] }, type := 43, pos := "ref.go:61", after := #[{ on := 6, ground := Ground.data }], guard := none }) rfl (fun K hK => ?_) AllReadyH.nil
    refine step_append_src rfl (.const (.slice none 0 0)) (.tmp 10) 43 rfl X.heap.size 64 i64 z64 11 88 Try.underlying43 ti tz tsz tby tzs (by decide) (.slice none 0 0) 0 [] rfl (World.ownsRow_nil _ _ _ _) (some ⟨g, 0, none⟩) i c ((L.take i).flatMap rc) rfl (by rw [flat_len rc_len, List.length_take, ← hN.out, Nat.min_eq_left (by omega)]) (by simp) (src_take (own_fr ho F (by simp))) (fun u hu => flat_one hu) (by unfold maxLen; omega) (by omega) F.size ?_
    intro v7 W7 o7 g7 l7
    rw [Nat.zero_add, List.nil_append] at o7
    have F : Fr [] X W7 := F.trans (Fr.ofGrown g7)
    refine hK.out _ _ hS (fun _ => ?_)
    clear hK K
    try simp only [Act.put, List.setIfInBounds_toArray, List.set_cons_zero, List.set_cons_succ]
    refine wpAnyH_ready (rs := [15]) (by decide +kernel) (by simp) ?_
    refine AllReadyH.cons (o := { dst := some 19, op := Op.call { callee := Callee.builtin Builtin.append, args := #[Operand.tmp 11, Operand.tmp 18], argTypes := #[43, 43] }, type := 43, pos := "ref.go:61", after := #[{ on := 7, ground := Ground.data }, { on := 14, ground := Ground.data }, { on := 7, ground := Ground.chain }], guard := none }) rfl (fun K hK => ?_) AllReadyH.nil
    refine step_append_src rfl (.tmp 11) (.tmp 18) 43 rfl X.heap.size 64 i64 z64 11 88 Try.underlying43 ti tz tsz tby tzs (by decide) v7 i ((L.take i).flatMap rc) rfl o7 (some ad) (N - (i + 1)) (c - (i + 1)) ((L.drop (i + 1)).flatMap rc) rfl (by rw [flat_len rc_len, List.length_drop, ← hN.out]) (by simp) (src_drop (own_fr ho F (by simp)) hN.out hNc had) (fun u hu => flat_one hu) (by unfold maxLen; omega) (by omega) F.size ?_
    intro v15 W15 o15 g15 l15
    have F : Fr [] X W15 := F.over (Fr.ofGrown g15) (fun k hk => .inr (own_type o7 (by simpa using hk)).1)
    refine hK.out _ _ hS (fun _ => ?_)
    clear hK K
    try simp only [Act.put, List.setIfInBounds_toArray, List.set_cons_zero, List.set_cons_succ]
    refine wpAnyH_take (i := 16) (oi := { dst := some 20, op := Op.nilCheck (Operand.tmp 4), type := 0, pos := "ref.go:61", after := #[{ on := 0, ground := Ground.data }, { on := 0, ground := Ground.phase }, { on := 1, ground := Ground.phase }, { on := 2, ground := Ground.phase }, { on := 3, ground := Ground.phase }, { on := 4, ground := Ground.phase }, { on := 5, ground := Ground.phase }, { on := 6, ground := Ground.phase }, { on := 7, ground := Ground.phase }, { on := 8, ground := Ground.phase }, { on := 9, ground := Ground.phase }, { on := 10, ground := Ground.phase }, { on := 11, ground := Ground.phase }, { on := 12, ground := Ground.phase }, { on := 13, ground := Ground.phase }, { on := 14, ground := Ground.phase }, { on := 15, ground := Ground.phase }], guard := none }) (v := .pointer (some ⟨rb, 0, none⟩)) rfl (by decide +kernel) (by decide +kernel) (by decide +kernel) (fun _ _ _ h => absurd h.1 (by simp)) (Or.inl ⟨by rfl, fun wq hSq => by first | rfl | go_simp⟩) hS ?_
    simp only [Act.put, List.setIfInBounds_toArray, List.set_cons_zero, List.set_cons_succ]
    refine wpAnyH_take (i := 17) (oi := { dst := some 21, op := Op.fieldAddr 46 (Operand.tmp 20) 0, type := 0, pos := "ref.go:61", after := #[{ on := 16, ground := Ground.data }, { on := 0, ground := Ground.phase }, { on := 1, ground := Ground.phase }, { on := 2, ground := Ground.phase }, { on := 3, ground := Ground.phase }, { on := 4, ground := Ground.phase }, { on := 5, ground := Ground.phase }, { on := 6, ground := Ground.phase }, { on := 7, ground := Ground.phase }, { on := 8, ground := Ground.phase }, { on := 9, ground := Ground.phase }, { on := 10, ground := Ground.phase }, { on := 11, ground := Ground.phase }, { on := 12, ground := Ground.phase }, { on := 13, ground := Ground.phase }, { on := 14, ground := Ground.phase }, { on := 15, ground := Ground.phase }], guard := none }) (v := .pointer (some ⟨rb, 0, none⟩)) rfl (by decide +kernel) (by decide +kernel) (by decide +kernel) (fun _ _ _ h => absurd h.1 (by simp)) (Or.inl ⟨by rfl, fun wq hSq => by first | rfl | go_simp⟩) hS ?_
    simp only [Act.put, List.setIfInBounds_toArray, List.set_cons_zero, List.set_cons_succ]
    refine wpAnyH_ready (rs := [18]) (by decide +kernel) (by simp) ?_
    refine AllReadyH.cons (o := { dst := none, op := Op.store 43 (Operand.tmp 21) (Operand.tmp 19), type := 0, pos := "ref.go:61", after := #[{ on := 17, ground := Ground.data }, { on := 15, ground := Ground.data }, { on := 15, ground := Ground.chain }, { on := 0, ground := Ground.phase }, { on := 1, ground := Ground.phase }, { on := 2, ground := Ground.phase }, { on := 3, ground := Ground.phase }, { on := 4, ground := Ground.phase }, { on := 5, ground := Ground.phase }, { on := 6, ground := Ground.phase }, { on := 7, ground := Ground.phase }, { on := 8, ground := Ground.phase }, { on := 9, ground := Ground.phase }, { on := 10, ground := Ground.phase }, { on := 11, ground := Ground.phase }, { on := 12, ground := Ground.phase }, { on := 13, ground := Ground.phase }, { on := 14, ground := Ground.phase }, { on := 15, ground := Ground.phase }], guard := none }) rfl (fun K hK => ?_) AllReadyH.nil
    obtain ⟨fa', fc', rfl, _⟩ := own_slice o15
    have q2 := hc _ F
    have z := hfz _ F
    go_simp
    refine hK.out _ _ hS (fun _ => ?_)
    clear hK K
    try simp only [Act.put, List.setIfInBounds_toArray, List.set_cons_zero, List.set_cons_succ]
    refine wpAnyH_done (by decide +kernel) ?_ _
    exact ⟨rfl, h _ _ _ _ _ _ _ _ _ _ _ _ _ _ _ _ _ _ _ _ _ F o15⟩
  refine AllReadyH.cons (o := { dst := some 15, op := Op.load 43 (Operand.tmp 14), type := 43, pos := "ref.go:61", after := #[{ on := 10, ground := Ground.data }], guard := none }) rfl (fun K hK => ?_) AllReadyH.nil
  have q1 := hc _ F
  go_simp
  refine hK.out _ _ hS (fun _ => ?_)
  clear hK K
  try simp only [Act.put, List.setIfInBounds_toArray, List.set_cons_zero, List.set_cons_succ]
  refine wpAnyH_take (i := 14) (oi := { dst := some 18, op := Op.slice 43 (Operand.tmp 15) (some (Operand.tmp 17)) none none, type := 43, pos := "ref.go:61", after := #[{ on := 11, ground := Ground.data }, { on := 13, ground := Ground.data }], guard := none }) (v := .slice (some ad) (N - (i + 1)) (c - (i + 1))) rfl (by decide +kernel) (by decide +kernel) (by decide +kernel) (fun _ _ _ h => absurd h.1 (by simp)) (Or.inl ⟨by rfl, fun wq hSq => yields_slice rfl (hsl wq)⟩) hS ?_
  simp only [Act.put, List.setIfInBounds_toArray, List.set_cons_zero, List.set_cons_succ]
  refine wpAnyH_ready (rs := [4]) (by decide +kernel) (by simp) ?_
  refine AllReadyH.cons (o := { dst := some 8, op := Op.load 43 (Operand.tmp 7), type := 43, pos := "ref.go:61", after := #[{ on := 3, ground := Ground.data }], guard := none }) rfl (fun K hK => ?_) AllReadyH.nil
  have q1 := hc _ F
  go_simp
  refine hK.out _ _ hS (fun _ => ?_)
  clear hK K
  try simp only [Act.put, List.setIfInBounds_toArray, List.set_cons_zero, List.set_cons_succ]
  refine wpAnyH_take (i := 6) (oi := { dst := some 10, op := Op.slice 43 (Operand.tmp 8) none (some (Operand.tmp 9)) none, type := 43, pos := "ref.go:61", after := #[{ on := 4, ground := Ground.data }, { on := 5, ground := Ground.data }], guard := none }) (v := .slice (some ⟨g, 0, none⟩) i c) rfl (by decide +kernel) (by decide +kernel) (by decide +kernel) (fun _ _ _ h => absurd h.1 (by simp)) (Or.inl ⟨by rfl, fun wq hSq => yields_slice rfl (slice_upto wq g N c i hic)⟩) hS ?_
  simp only [Act.put, List.setIfInBounds_toArray, List.set_cons_zero, List.set_cons_succ]
  refine wpAnyH_ready (rs := [7]) (by decide +kernel) (by simp) ?_
  refine AllReadyH.cons (o := { dst := some 11, op := Op.call { callee := Callee.builtin Builtin.append, args := #[Operand.const (Value.slice none 0 0), Operand.tmp 10], argTypes := #[43, 43] }, type := 43, pos := "ref.go:61", after := #[{ on := 6, ground := Ground.data }], guard := none }) rfl (fun K hK => ?_) AllReadyH.nil
  refine step_append_src rfl (.const (.slice none 0 0)) (.tmp 10) 43 rfl X.heap.size 64 i64 z64 11 88 Try.underlying43 ti tz tsz tby tzs (by decide) (.slice none 0 0) 0 [] rfl (World.ownsRow_nil _ _ _ _) (some ⟨g, 0, none⟩) i c ((L.take i).flatMap rc) rfl (by rw [flat_len rc_len, List.length_take, ← hN.out, Nat.min_eq_left (by omega)]) (by simp) (src_take (own_fr ho F (by simp))) (fun u hu => flat_one hu) (by unfold maxLen; omega) (by omega) F.size ?_
  intro v7 W7 o7 g7 l7
  rw [Nat.zero_add, List.nil_append] at o7
  have F : Fr [] X W7 := F.trans (Fr.ofGrown g7)
  refine hK.out _ _ hS (fun _ => ?_)
  clear hK K
  try simp only [Act.put, List.setIfInBounds_toArray, List.set_cons_zero, List.set_cons_succ]
  refine wpAnyH_ready (rs := [15]) (by decide +kernel) (by simp) ?_
  refine AllReadyH.cons (o := { dst := some 19, op := Op.call { callee := Callee.builtin Builtin.append, args := #[Operand.tmp 11, Operand.tmp 18], argTypes := #[43, 43] }, type := 43, pos := "ref.go:61", after := #[{ on := 7, ground := Ground.data }, { on := 14, ground := Ground.data }, { on := 7, ground := Ground.chain }], guard := none }) rfl (fun K hK => ?_) AllReadyH.nil
  refine step_append_src rfl (.tmp 11) (.tmp 18) 43 rfl X.heap.size 64 i64 z64 11 88 Try.underlying43 ti tz tsz tby tzs (by decide) v7 i ((L.take i).flatMap rc) rfl o7 (some ad) (N - (i + 1)) (c - (i + 1)) ((L.drop (i + 1)).flatMap rc) rfl (by rw [flat_len rc_len, List.length_drop, ← hN.out]) (by simp) (src_drop (own_fr ho F (by simp)) hN.out hNc had) (fun u hu => flat_one hu) (by unfold maxLen; omega) (by omega) F.size ?_
  intro v15 W15 o15 g15 l15
  have F : Fr [] X W15 := F.over (Fr.ofGrown g15) (fun k hk => .inr (own_type o7 (by simpa using hk)).1)
  refine hK.out _ _ hS (fun _ => ?_)
  clear hK K
  try simp only [Act.put, List.setIfInBounds_toArray, List.set_cons_zero, List.set_cons_succ]
  refine wpAnyH_take (i := 16) (oi := { dst := some 20, op := Op.nilCheck (Operand.tmp 4), type := 0, pos := "ref.go:61", after := #[{ on := 0, ground := Ground.data }, { on := 0, ground := Ground.phase }, { on := 1, ground := Ground.phase }, { on := 2, ground := Ground.phase }, { on := 3, ground := Ground.phase }, { on := 4, ground := Ground.phase }, { on := 5, ground := Ground.phase }, { on := 6, ground := Ground.phase }, { on := 7, ground := Ground.phase }, { on := 8, ground := Ground.phase }, { on := 9, ground := Ground.phase }, { on := 10, ground := Ground.phase }, { on := 11, ground := Ground.phase }, { on := 12, ground := Ground.phase }, { on := 13, ground := Ground.phase }, { on := 14, ground := Ground.phase }, { on := 15, ground := Ground.phase }], guard := none }) (v := .pointer (some ⟨rb, 0, none⟩)) rfl (by decide +kernel) (by decide +kernel) (by decide +kernel) (fun _ _ _ h => absurd h.1 (by simp)) (Or.inl ⟨by rfl, fun wq hSq => by first | rfl | go_simp⟩) hS ?_
  simp only [Act.put, List.setIfInBounds_toArray, List.set_cons_zero, List.set_cons_succ]
  refine wpAnyH_take (i := 17) (oi := { dst := some 21, op := Op.fieldAddr 46 (Operand.tmp 20) 0, type := 0, pos := "ref.go:61", after := #[{ on := 16, ground := Ground.data }, { on := 0, ground := Ground.phase }, { on := 1, ground := Ground.phase }, { on := 2, ground := Ground.phase }, { on := 3, ground := Ground.phase }, { on := 4, ground := Ground.phase }, { on := 5, ground := Ground.phase }, { on := 6, ground := Ground.phase }, { on := 7, ground := Ground.phase }, { on := 8, ground := Ground.phase }, { on := 9, ground := Ground.phase }, { on := 10, ground := Ground.phase }, { on := 11, ground := Ground.phase }, { on := 12, ground := Ground.phase }, { on := 13, ground := Ground.phase }, { on := 14, ground := Ground.phase }, { on := 15, ground := Ground.phase }], guard := none }) (v := .pointer (some ⟨rb, 0, none⟩)) rfl (by decide +kernel) (by decide +kernel) (by decide +kernel) (fun _ _ _ h => absurd h.1 (by simp)) (Or.inl ⟨by rfl, fun wq hSq => by first | rfl | go_simp⟩) hS ?_
  simp only [Act.put, List.setIfInBounds_toArray, List.set_cons_zero, List.set_cons_succ]
  refine wpAnyH_ready (rs := [18]) (by decide +kernel) (by simp) ?_
  refine AllReadyH.cons (o := { dst := none, op := Op.store 43 (Operand.tmp 21) (Operand.tmp 19), type := 0, pos := "ref.go:61", after := #[{ on := 17, ground := Ground.data }, { on := 15, ground := Ground.data }, { on := 15, ground := Ground.chain }, { on := 0, ground := Ground.phase }, { on := 1, ground := Ground.phase }, { on := 2, ground := Ground.phase }, { on := 3, ground := Ground.phase }, { on := 4, ground := Ground.phase }, { on := 5, ground := Ground.phase }, { on := 6, ground := Ground.phase }, { on := 7, ground := Ground.phase }, { on := 8, ground := Ground.phase }, { on := 9, ground := Ground.phase }, { on := 10, ground := Ground.phase }, { on := 11, ground := Ground.phase }, { on := 12, ground := Ground.phase }, { on := 13, ground := Ground.phase }, { on := 14, ground := Ground.phase }, { on := 15, ground := Ground.phase }], guard := none }) rfl (fun K hK => ?_) AllReadyH.nil
  obtain ⟨fa', fc', rfl, _⟩ := own_slice o15
  have q2 := hc _ F
  have z := hfz _ F
  go_simp
  refine hK.out _ _ hS (fun _ => ?_)
  clear hK K
  try simp only [Act.put, List.setIfInBounds_toArray, List.set_cons_zero, List.set_cons_succ]
  refine wpAnyH_done (by decide +kernel) ?_ _
  exact ⟨rfl, h _ _ _ _ _ _ _ _ _ _ _ _ _ _ _ _ _ _ _ _ _ F o15⟩
set_option maxRecDepth 100000 in
set_option maxHeartbeats 4000000 in
theorem reg15 {X : World} {rb kb fn fc B : Nat} {fa : Option Addr} {xs : List Value} {x0 x1 x2 x3 x4 x5 x6 x7 x8 x9 : Int} (ho : X.ownsRow B 28 10 (.slice fa fn fc) fn xs) (hbase : B ≤ X.heap.size) (cf : ∀ w', Fr [] X w' → w'.cell? ⟨rb, 1, none⟩ = some (.slice fa fn fc)) (cg : ∀ w', Fr (Value.slice fa fn fc).ownBlock.toList X w' → w'.cell? ⟨rb, 1, none⟩ = some (.slice fa fn fc)) (fz : ∀ w', Fr (Value.slice fa fn fc).ownBlock.toList X w' → w'.frozen? ⟨rb, 1, none⟩ = false) (l1 : ∀ w', Fr (rb :: (Value.slice fa fn fc).ownBlock.toList) X w' → w'.rangeAt kb 0 [.int .i64 x0, .int .i64 x1, .int .i64 x2, .int .i64 x3, .int .i64 x4, .int .i64 x5, .int .i64 x6, .int .i64 x7, .int .i64 x8, .int .i64 x9]) (hfn : fn ≤ 1000000)
    {Q : Exit → Act → World → Prop} {u1 u2 u4 u5 u6 u7 u8 u9 u10 u11 u12 u13 u14 u15 u16 u17 u18 u19 u20 u21 u22 u23 u24 u25 u26 : Value}
    (h : ∀ n17 n18 n19 n20 n21 n22 n23 n24 n25 n26 X2 fa' fc', Fr (Value.slice fa fn fc).ownBlock.toList X X2 → X2.ownsRow B 28 10 (.slice fa' (fn + 1) fc') (fn + 1) (xs ++ [.int .i64 x0, .int .i64 x1, .int .i64 x2, .int .i64 x3, .int .i64 x4, .int .i64 x5, .int .i64 x6, .int .i64 x7, .int .i64 x8, .int .i64 x9]) → (∀ k, (Value.slice fa' (fn + 1) fc').ownBlock = some k → (Value.slice fa fn fc).ownBlock = some k ∨ X.heap.size ≤ k) → Q .normal { tmps := #[.pointer (some ⟨rb, 0, none⟩), u1, u2, .pointer (some ⟨kb, 0, none⟩), u4, u5, u6, u7, u8, u9, u10, u11, u12, u13, u14, u15, u16, n17, n18, n19, n20, n21, n22, n23, n24, n25, n26], defers := [] } (X2.setCell ⟨rb, 1, none⟩ (.slice fa' (fn + 1) fc'))) :
    (Code.region 5 #[{ dst := some 17, op := Op.move (Operand.tmp 0), type := 35, pos := "ref.go:106", after := #[], guard := none }, { dst := some 18, op := Op.move (Operand.tmp 0), type := 35, pos := "ref.go:106", after := #[], guard := none }, { dst := some 19, op := Op.nilCheck (Operand.tmp 18), type := 0, pos := "ref.go:106", after := #[{ on := 1, ground := Ground.data }], guard := none }, { dst := some 20, op := Op.fieldAddr 46 (Operand.tmp 19) 1, type := 0, pos := "ref.go:106", after := #[{ on := 2, ground := Ground.data }], guard := none }, { dst := some 21, op := Op.load 44 (Operand.tmp 20), type := 44, pos := "ref.go:106", after := #[{ on := 3, ground := Ground.data }], guard := none }, { dst := some 22, op := Op.load 28 (Operand.tmp 3), type := 28, pos := "ref.go:106", after := #[], guard := none }, { dst := some 23, op := Op.buildSlice 44 1 #[(0, Operand.tmp 22)], type := 44, pos := "ref.go:106", after := #[{ on := 5, ground := Ground.data }], guard := none }, { dst := some 24, op := Op.call { callee := Callee.builtin Builtin.append, args := #[Operand.tmp 21, Operand.tmp 23], argTypes := #[44, 44] }, type := 44, pos := "ref.go:106", after := #[{ on := 4, ground := Ground.data }, { on := 6, ground := Ground.data }], guard := none }, { dst := some 25, op := Op.nilCheck (Operand.tmp 17), type := 0, pos := "ref.go:106", after := #[{ on := 0, ground := Ground.data }, { on := 0, ground := Ground.phase }, { on := 1, ground := Ground.phase }, { on := 2, ground := Ground.phase }, { on := 3, ground := Ground.phase }, { on := 4, ground := Ground.phase }, { on := 5, ground := Ground.phase }, { on := 6, ground := Ground.phase }, { on := 7, ground := Ground.phase }], guard := none }, { dst := some 26, op := Op.fieldAddr 46 (Operand.tmp 25) 1, type := 0, pos := "ref.go:106", after := #[{ on := 8, ground := Ground.data }, { on := 0, ground := Ground.phase }, { on := 1, ground := Ground.phase }, { on := 2, ground := Ground.phase }, { on := 3, ground := Ground.phase }, { on := 4, ground := Ground.phase }, { on := 5, ground := Ground.phase }, { on := 6, ground := Ground.phase }, { on := 7, ground := Ground.phase }], guard := none }, { dst := none, op := Op.store 44 (Operand.tmp 26) (Operand.tmp 24), type := 0, pos := "ref.go:106", after := #[{ on := 9, ground := Ground.data }, { on := 7, ground := Ground.data }, { on := 7, ground := Ground.chain }, { on := 0, ground := Ground.phase }, { on := 1, ground := Ground.phase }, { on := 2, ground := Ground.phase }, { on := 3, ground := Ground.phase }, { on := 4, ground := Ground.phase }, { on := 5, ground := Ground.phase }, { on := 6, ground := Ground.phase }, { on := 7, ground := Ground.phase }], guard := none }] true).wp Try.prog Q { tmps := #[.pointer (some ⟨rb, 0, none⟩), u1, u2, .pointer (some ⟨kb, 0, none⟩), u4, u5, u6, u7, u8, u9, u10, u11, u12, u13, u14, u15, u16, u17, u18, u19, u20, u21, u22, u23, u24, u25, u26], defers := [] } X := by
  obtain ⟨iI, zI, ti, tz, tsz, tby, tzs⟩ := ti28
  refine wp_mono (Q := Plain (fun a w => Q .normal a w)) ?_ (fun e a w h => by obtain ⟨rfl, h2⟩ := h; exact h2)
  refine wp_region_held (S := fun w' => Fr (rb :: (Value.slice fa fn fc).ownBlock.toList) X w') (by kernel_rfl) ?_
  change wpAnyH _ _ _ _ _ _ _ _ X.drew
  have F : Fr [] X X.drew := Fr.drew (Fr.refl _ X)
  generalize X.drew = Y at *
  have hS : Fr (rb :: (Value.slice fa fn fc).ownBlock.toList) X Y := F.sub (by simp)
  refine wpAnyH_take (i := 0) (oi := { dst := some 17, op := Op.move (Operand.tmp 0), type := 35, pos := "ref.go:106", after := #[], guard := none }) (v := .pointer (some ⟨rb, 0, none⟩)) rfl (by decide +kernel) (by decide +kernel) (by decide +kernel) (fun _ _ _ h => absurd h.1 (by simp)) (Or.inl ⟨by rfl, fun wq hSq => by first | rfl | go_simp⟩) hS ?_
  simp only [Act.put, List.setIfInBounds_toArray, List.set_cons_zero, List.set_cons_succ]
  refine wpAnyH_take (i := 1) (oi := { dst := some 18, op := Op.move (Operand.tmp 0), type := 35, pos := "ref.go:106", after := #[], guard := none }) (v := .pointer (some ⟨rb, 0, none⟩)) rfl (by decide +kernel) (by decide +kernel) (by decide +kernel) (fun _ _ _ h => absurd h.1 (by simp)) (Or.inl ⟨by rfl, fun wq hSq => by first | rfl | go_simp⟩) hS ?_
  simp only [Act.put, List.setIfInBounds_toArray, List.set_cons_zero, List.set_cons_succ]
  refine wpAnyH_take (i := 2) (oi := { dst := some 19, op := Op.nilCheck (Operand.tmp 18), type := 0, pos := "ref.go:106", after := #[{ on := 1, ground := Ground.data }], guard := none }) (v := .pointer (some ⟨rb, 0, none⟩)) rfl (by decide +kernel) (by decide +kernel) (by decide +kernel) (fun _ _ _ h => absurd h.1 (by simp)) (Or.inl ⟨by rfl, fun wq hSq => by first | rfl | go_simp⟩) hS ?_
  simp only [Act.put, List.setIfInBounds_toArray, List.set_cons_zero, List.set_cons_succ]
  refine wpAnyH_take (i := 3) (oi := { dst := some 20, op := Op.fieldAddr 46 (Operand.tmp 19) 1, type := 0, pos := "ref.go:106", after := #[{ on := 2, ground := Ground.data }], guard := none }) (v := .pointer (some ⟨rb, 1, none⟩)) rfl (by decide +kernel) (by decide +kernel) (by decide +kernel) (fun _ _ _ h => absurd h.1 (by simp)) (Or.inl ⟨by rfl, fun wq hSq => by first | rfl | go_simp⟩) hS ?_
  simp only [Act.put, List.setIfInBounds_toArray, List.set_cons_zero, List.set_cons_succ]
  refine wpAnyH_take (i := 5) (oi := { dst := some 22, op := Op.load 28 (Operand.tmp 3), type := 28, pos := "ref.go:106", after := #[], guard := none }) (v := .agg #[.int .i64 x0, .int .i64 x1, .int .i64 x2, .int .i64 x3, .int .i64 x4, .int .i64 x5, .int .i64 x6, .int .i64 x7, .int .i64 x8, .int .i64 x9]) rfl (by decide +kernel) (by decide +kernel) (by decide +kernel) (fun _ _ _ h => absurd h.1 (by simp)) (yieldsIf_load_mid (by rfl) 28 (.tmp 3) rfl kb 0 rfl [.int .i64 x0, .int .i64 x1, .int .i64 x2, .int .i64 x3, .int .i64 x4, .int .i64 x5, .int .i64 x6, .int .i64 x7, .int .i64 x8, .int .i64 x9] _ l1 Try.underlying28 rfl (by rw [info28]; rfl)) hS ?_
  simp only [Act.put, List.setIfInBounds_toArray, List.set_cons_zero, List.set_cons_succ]
  refine wpAnyH_ready (rs := [4, 6]) (by decide +kernel) (by simp) ?_
  refine AllReadyH.cons (o := { dst := some 21, op := Op.load 44 (Operand.tmp 20), type := 44, pos := "ref.go:106", after := #[{ on := 3, ground := Ground.data }], guard := none }) rfl (fun K hK => ?_) ?_
  · skip
    have q1 := cf Y F
    go_simp
    refine hK.out _ _ hS (fun _ => ?_)
    clear hK K
    try simp only [Act.put, List.setIfInBounds_toArray, List.set_cons_zero, List.set_cons_succ]
    refine wpAnyH_ready (rs := [6]) (by decide +kernel) (by simp) ?_
    refine AllReadyH.cons (o := { dst := some 23, op := Op.buildSlice 44 1 #[(0, Operand.tmp 22)], type := 44, pos := "ref.go:106", after := #[{ on := 5, ground := Ground.data }], guard := none }) rfl (fun K hK => ?_) AllReadyH.nil
    go_simp
    have hS := hS.alloc (.cells #[.int .i64 x0, .int .i64 x1, .int .i64 x2, .int .i64 x3, .int .i64 x4, .int .i64 x5, .int .i64 x6, .int .i64 x7, .int .i64 x8, .int .i64 x9] 28)
    refine hK.out _ _ hS (fun _ => ?_)
    clear hK K
    try simp only [Act.put, List.setIfInBounds_toArray, List.set_cons_zero, List.set_cons_succ]
    refine wpAnyH_ready (rs := [7]) (by decide +kernel) (by simp) ?_
    refine AllReadyH.cons (o := { dst := some 24, op := Op.call { callee := Callee.builtin Builtin.append, args := #[Operand.tmp 21, Operand.tmp 23], argTypes := #[44, 44] }, type := 44, pos := "ref.go:106", after := #[{ on := 4, ground := Ground.data }, { on := 6, ground := Ground.data }], guard := none }) rfl (fun K hK => ?_) AllReadyH.nil
    refine step_append_src rfl (.tmp 21) (.tmp 23) 44 rfl B 28 iI zI 10 80 Try.underlying44 ti tz tsz tby tzs (by decide) (.slice fa fn fc) fn xs rfl ((own_fr ho F (by simp)).alloc _) (some ⟨Y.heap.size, 0, none⟩) 1 1 [.int .i64 x0, .int .i64 x1, .int .i64 x2, .int .i64 x3, .int .i64 x4, .int .i64 x5, .int .i64 x6, .int .i64 x7, .int .i64 x8, .int .i64 x9] rfl rfl (by simp) (fun ad hh => by cases hh; intro j u hu; rw [add_off, Nat.zero_add]; exact at_cells (heap_alloc_new Y (.cells #[.int .i64 x0, .int .i64 x1, .int .i64 x2, .int .i64 x3, .int .i64 x4, .int .i64 x5, .int .i64 x6, .int .i64 x7, .int .i64 x8, .int .i64 x9] 28)) j (by simpa using hu)) (by simp [Value.oneCell']) (by unfold maxLen; omega) (by omega) (by have := F.size; simp; omega) ?_
    intro v' X2 ho2 hg2 hl2
    have f2 : Fr (Value.slice fa fn fc).ownBlock.toList X X2 := ((F.sub (by simp)).alloc _).trans ((Fr.ofGrown hg2).sub (fun k hk => .inl hk))
    have hS : Fr (rb :: (Value.slice fa fn fc).ownBlock.toList) X X2 := f2.sub (fun k hk => .inl (by simp at hk; simp [hk]))
    obtain ⟨fa', fc', rfl, _⟩ := own_slice ho2
    have hl3 : ∀ k, (Value.slice fa' (fn + 1) fc').ownBlock = some k → (Value.slice fa fn fc).ownBlock = some k ∨ X.heap.size ≤ k := fun k hk => by (rcases hl2 k hk with h1 | h1; exact .inl h1; exact .inr (by have := F.size; first | omega | (simp at h1; omega)))
    refine hK.out _ _ hS (fun _ => ?_)
    clear hK K
    try simp only [Act.put, List.setIfInBounds_toArray, List.set_cons_zero, List.set_cons_succ]
    refine wpAnyH_take (i := 8) (oi := { dst := some 25, op := Op.nilCheck (Operand.tmp 17), type := 0, pos := "ref.go:106", after := #[{ on := 0, ground := Ground.data }, { on := 0, ground := Ground.phase }, { on := 1, ground := Ground.phase }, { on := 2, ground := Ground.phase }, { on := 3, ground := Ground.phase }, { on := 4, ground := Ground.phase }, { on := 5, ground := Ground.phase }, { on := 6, ground := Ground.phase }, { on := 7, ground := Ground.phase }], guard := none }) (v := .pointer (some ⟨rb, 0, none⟩)) rfl (by decide +kernel) (by decide +kernel) (by decide +kernel) (fun _ _ _ h => absurd h.1 (by simp)) (Or.inl ⟨by rfl, fun wq hSq => by first | rfl | go_simp⟩) hS ?_
    simp only [Act.put, List.setIfInBounds_toArray, List.set_cons_zero, List.set_cons_succ]
    refine wpAnyH_take (i := 9) (oi := { dst := some 26, op := Op.fieldAddr 46 (Operand.tmp 25) 1, type := 0, pos := "ref.go:106", after := #[{ on := 8, ground := Ground.data }, { on := 0, ground := Ground.phase }, { on := 1, ground := Ground.phase }, { on := 2, ground := Ground.phase }, { on := 3, ground := Ground.phase }, { on := 4, ground := Ground.phase }, { on := 5, ground := Ground.phase }, { on := 6, ground := Ground.phase }, { on := 7, ground := Ground.phase }], guard := none }) (v := .pointer (some ⟨rb, 1, none⟩)) rfl (by decide +kernel) (by decide +kernel) (by decide +kernel) (fun _ _ _ h => absurd h.1 (by simp)) (Or.inl ⟨by rfl, fun wq hSq => by first | rfl | go_simp⟩) hS ?_
    simp only [Act.put, List.setIfInBounds_toArray, List.set_cons_zero, List.set_cons_succ]
    refine wpAnyH_ready (rs := [10]) (by decide +kernel) (by simp) ?_
    refine AllReadyH.cons (o := { dst := none, op := Op.store 44 (Operand.tmp 26) (Operand.tmp 24), type := 0, pos := "ref.go:106", after := #[{ on := 9, ground := Ground.data }, { on := 7, ground := Ground.data }, { on := 7, ground := Ground.chain }, { on := 0, ground := Ground.phase }, { on := 1, ground := Ground.phase }, { on := 2, ground := Ground.phase }, { on := 3, ground := Ground.phase }, { on := 4, ground := Ground.phase }, { on := 5, ground := Ground.phase }, { on := 6, ground := Ground.phase }, { on := 7, ground := Ground.phase }], guard := none }) rfl (fun K hK => ?_) AllReadyH.nil
    have q2 := cg _ f2
    have z := fz _ f2
    go_simp
    have hS := hS.setCell (p := ⟨rb, 1, none⟩) (.inl (by simp)) (.slice fa' (fn + 1) fc')
    refine hK.out _ _ hS (fun _ => ?_)
    clear hK K
    try simp only [Act.put, List.setIfInBounds_toArray, List.set_cons_zero, List.set_cons_succ]
    refine wpAnyH_done (by decide +kernel) ?_ _
    exact ⟨rfl, h _ _ _ _ _ _ _ _ _ _ _ _ _ f2 ho2 hl3⟩
  refine AllReadyH.cons (o := { dst := some 23, op := Op.buildSlice 44 1 #[(0, Operand.tmp 22)], type := 44, pos := "ref.go:106", after := #[{ on := 5, ground := Ground.data }], guard := none }) rfl (fun K hK => ?_) AllReadyH.nil
  go_simp
  have hS := hS.alloc (.cells #[.int .i64 x0, .int .i64 x1, .int .i64 x2, .int .i64 x3, .int .i64 x4, .int .i64 x5, .int .i64 x6, .int .i64 x7, .int .i64 x8, .int .i64 x9] 28)
  refine hK.out _ _ hS (fun _ => ?_)
  clear hK K
  try simp only [Act.put, List.setIfInBounds_toArray, List.set_cons_zero, List.set_cons_succ]
  refine wpAnyH_ready (rs := [4]) (by decide +kernel) (by simp) ?_
  refine AllReadyH.cons (o := { dst := some 21, op := Op.load 44 (Operand.tmp 20), type := 44, pos := "ref.go:106", after := #[{ on := 3, ground := Ground.data }], guard := none }) rfl (fun K hK => ?_) AllReadyH.nil
  have q1 := cf (Y.alloc (.cells #[.int .i64 x0, .int .i64 x1, .int .i64 x2, .int .i64 x3, .int .i64 x4, .int .i64 x5, .int .i64 x6, .int .i64 x7, .int .i64 x8, .int .i64 x9] 28)) (F.alloc _)
  go_simp
  refine hK.out _ _ hS (fun _ => ?_)
  clear hK K
  try simp only [Act.put, List.setIfInBounds_toArray, List.set_cons_zero, List.set_cons_succ]
  refine wpAnyH_ready (rs := [7]) (by decide +kernel) (by simp) ?_
  refine AllReadyH.cons (o := { dst := some 24, op := Op.call { callee := Callee.builtin Builtin.append, args := #[Operand.tmp 21, Operand.tmp 23], argTypes := #[44, 44] }, type := 44, pos := "ref.go:106", after := #[{ on := 4, ground := Ground.data }, { on := 6, ground := Ground.data }], guard := none }) rfl (fun K hK => ?_) AllReadyH.nil
  refine step_append_src rfl (.tmp 21) (.tmp 23) 44 rfl B 28 iI zI 10 80 Try.underlying44 ti tz tsz tby tzs (by decide) (.slice fa fn fc) fn xs rfl ((own_fr ho F (by simp)).alloc _) (some ⟨Y.heap.size, 0, none⟩) 1 1 [.int .i64 x0, .int .i64 x1, .int .i64 x2, .int .i64 x3, .int .i64 x4, .int .i64 x5, .int .i64 x6, .int .i64 x7, .int .i64 x8, .int .i64 x9] rfl rfl (by simp) (fun ad hh => by cases hh; intro j u hu; rw [add_off, Nat.zero_add]; exact at_cells (heap_alloc_new Y (.cells #[.int .i64 x0, .int .i64 x1, .int .i64 x2, .int .i64 x3, .int .i64 x4, .int .i64 x5, .int .i64 x6, .int .i64 x7, .int .i64 x8, .int .i64 x9] 28)) j (by simpa using hu)) (by simp [Value.oneCell']) (by unfold maxLen; omega) (by omega) (by have := F.size; simp; omega) ?_
  intro v' X2 ho2 hg2 hl2
  have f2 : Fr (Value.slice fa fn fc).ownBlock.toList X X2 := ((F.sub (by simp)).alloc _).trans ((Fr.ofGrown hg2).sub (fun k hk => .inl hk))
  have hS : Fr (rb :: (Value.slice fa fn fc).ownBlock.toList) X X2 := f2.sub (fun k hk => .inl (by simp at hk; simp [hk]))
  obtain ⟨fa', fc', rfl, _⟩ := own_slice ho2
  have hl3 : ∀ k, (Value.slice fa' (fn + 1) fc').ownBlock = some k → (Value.slice fa fn fc).ownBlock = some k ∨ X.heap.size ≤ k := fun k hk => by (rcases hl2 k hk with h1 | h1; exact .inl h1; exact .inr (by have := F.size; first | omega | (simp at h1; omega)))
  refine hK.out _ _ hS (fun _ => ?_)
  clear hK K
  try simp only [Act.put, List.setIfInBounds_toArray, List.set_cons_zero, List.set_cons_succ]
  refine wpAnyH_take (i := 8) (oi := { dst := some 25, op := Op.nilCheck (Operand.tmp 17), type := 0, pos := "ref.go:106", after := #[{ on := 0, ground := Ground.data }, { on := 0, ground := Ground.phase }, { on := 1, ground := Ground.phase }, { on := 2, ground := Ground.phase }, { on := 3, ground := Ground.phase }, { on := 4, ground := Ground.phase }, { on := 5, ground := Ground.phase }, { on := 6, ground := Ground.phase }, { on := 7, ground := Ground.phase }], guard := none }) (v := .pointer (some ⟨rb, 0, none⟩)) rfl (by decide +kernel) (by decide +kernel) (by decide +kernel) (fun _ _ _ h => absurd h.1 (by simp)) (Or.inl ⟨by rfl, fun wq hSq => by first | rfl | go_simp⟩) hS ?_
  simp only [Act.put, List.setIfInBounds_toArray, List.set_cons_zero, List.set_cons_succ]
  refine wpAnyH_take (i := 9) (oi := { dst := some 26, op := Op.fieldAddr 46 (Operand.tmp 25) 1, type := 0, pos := "ref.go:106", after := #[{ on := 8, ground := Ground.data }, { on := 0, ground := Ground.phase }, { on := 1, ground := Ground.phase }, { on := 2, ground := Ground.phase }, { on := 3, ground := Ground.phase }, { on := 4, ground := Ground.phase }, { on := 5, ground := Ground.phase }, { on := 6, ground := Ground.phase }, { on := 7, ground := Ground.phase }], guard := none }) (v := .pointer (some ⟨rb, 1, none⟩)) rfl (by decide +kernel) (by decide +kernel) (by decide +kernel) (fun _ _ _ h => absurd h.1 (by simp)) (Or.inl ⟨by rfl, fun wq hSq => by first | rfl | go_simp⟩) hS ?_
  simp only [Act.put, List.setIfInBounds_toArray, List.set_cons_zero, List.set_cons_succ]
  refine wpAnyH_ready (rs := [10]) (by decide +kernel) (by simp) ?_
  refine AllReadyH.cons (o := { dst := none, op := Op.store 44 (Operand.tmp 26) (Operand.tmp 24), type := 0, pos := "ref.go:106", after := #[{ on := 9, ground := Ground.data }, { on := 7, ground := Ground.data }, { on := 7, ground := Ground.chain }, { on := 0, ground := Ground.phase }, { on := 1, ground := Ground.phase }, { on := 2, ground := Ground.phase }, { on := 3, ground := Ground.phase }, { on := 4, ground := Ground.phase }, { on := 5, ground := Ground.phase }, { on := 6, ground := Ground.phase }, { on := 7, ground := Ground.phase }], guard := none }) rfl (fun K hK => ?_) AllReadyH.nil
  have q2 := cg _ f2
  have z := fz _ f2
  go_simp
  have hS := hS.setCell (p := ⟨rb, 1, none⟩) (.inl (by simp)) (.slice fa' (fn + 1) fc')
  refine hK.out _ _ hS (fun _ => ?_)
  clear hK K
  try simp only [Act.put, List.setIfInBounds_toArray, List.set_cons_zero, List.set_cons_succ]
  refine wpAnyH_done (by decide +kernel) ?_ _
  exact ⟨rfl, h _ _ _ _ _ _ _ _ _ _ _ _ _ f2 ho2 hl3⟩
set_option maxRecDepth 100000 in
set_option maxHeartbeats 4000000 in
theorem reg17b {X : World} {rb kb fn fc B : Nat} {fa : Option Addr} {xs : List Value} {x0 x1 x2 x3 x4 x5 x6 x7 x8 x9 : Int} (ho : X.ownsRow B 64 11 (.slice fa fn fc) fn xs) (hbase : B ≤ X.heap.size) (cf : ∀ w', Fr [] X w' → w'.cell? ⟨rb, 0, none⟩ = some (.slice fa fn fc)) (cg : ∀ w', Fr (Value.slice fa fn fc).ownBlock.toList X w' → w'.cell? ⟨rb, 0, none⟩ = some (.slice fa fn fc)) (fz : ∀ w', Fr (Value.slice fa fn fc).ownBlock.toList X w' → w'.frozen? ⟨rb, 0, none⟩ = false) (l1 : ∀ w', Fr (rb :: (Value.slice fa fn fc).ownBlock.toList) X w' → w'.rangeAt kb 0 [.int .i64 x0, .int .i64 x1, .int .i64 x2, .int .i64 x3, .int .i64 x4, .int .i64 x5, .int .i64 x6, .int .i64 x7, .int .i64 x8, .int .i64 x9]) (hfn : fn ≤ 1000000)
    {Q : Exit → Act → World → Prop} {u1 u2 u4 u5 u6 u7 u8 u9 u10 u11 u12 u13 u14 u15 u16 u17 u18 u19 u20 u21 u22 u23 u24 u25 u26 u27 u28 u29 u30 u31 u32 u33 u34 u35 u36 u37 u38 u39 u40 u41 u42 u43 u44 u45 u46 u47 u48 u49 u50 u51 u52 u53 u54 u55 u56 u57 u58 u59 u60 u61 u62 u63 u64 u65 u66 u67 u68 u69 u70 u71 u72 u73 u74 u75 u76 u77 u78 u79 u80 u81 u82 u83 u84 u85 u86 u87 u88 u89 u90 u91 u92 u93 u94 u95 u96 : Value}
    (h : ∀ n49 n50 n51 n52 n53 n54 n55 n56 n57 n58 n59 X2 fa' fc', Fr (Value.slice fa fn fc).ownBlock.toList X X2 → X2.ownsRow B 64 11 (.slice fa' (fn + 1) fc') (fn + 1) (xs ++ [.int .i64 x0, .int .i64 x1, .int .i64 x2, .int .i64 x3, .int .i64 x4, .int .i64 x5, .int .i64 x6, .int .i64 x7, .int .i64 x8, .int .i64 x9, .int .i64 0]) → (∀ k, (Value.slice fa' (fn + 1) fc').ownBlock = some k → (Value.slice fa fn fc).ownBlock = some k ∨ X.heap.size ≤ k) → Q .normal { tmps := #[.pointer (some ⟨rb, 0, none⟩), u1, u2, .pointer (some ⟨kb, 0, none⟩), u4, u5, u6, u7, u8, u9, u10, u11, u12, u13, u14, u15, u16, u17, u18, u19, u20, u21, u22, u23, u24, u25, u26, u27, u28, u29, u30, u31, u32, u33, u34, u35, u36, u37, u38, u39, u40, u41, u42, u43, u44, u45, u46, u47, u48, n49, n50, n51, n52, n53, n54, n55, n56, n57, n58, n59, u60, u61, u62, u63, u64, u65, u66, u67, u68, u69, u70, u71, u72, u73, u74, u75, u76, u77, u78, u79, u80, u81, u82, u83, u84, u85, u86, u87, u88, u89, u90, u91, u92, u93, u94, u95, u96], defers := [] } (X2.setCell ⟨rb, 0, none⟩ (.slice fa' (fn + 1) fc'))) :
    (Code.region 14 #[{ dst := some 49, op := Op.move (Operand.tmp 0), type := 35, pos := "ref.go:80", after := #[], guard := none }, { dst := some 50, op := Op.move (Operand.tmp 0), type := 35, pos := "ref.go:80", after := #[], guard := none }, { dst := some 51, op := Op.nilCheck (Operand.tmp 50), type := 0, pos := "ref.go:80", after := #[{ on := 1, ground := Ground.data }], guard := none }, { dst := some 52, op := Op.fieldAddr 46 (Operand.tmp 51) 0, type := 0, pos := "ref.go:80", after := #[{ on := 2, ground := Ground.data }], guard := none }, { dst := some 53, op := Op.load 43 (Operand.tmp 52), type := 43, pos := "ref.go:80", after := #[{ on := 3, ground := Ground.data }], guard := none }, { dst := some 54, op := Op.load 28 (Operand.tmp 3), type := 28, pos := "ref.go:80", after := #[], guard := none }, { dst := some 55, op := Op.build 64 #[(0, Operand.tmp 54)], type := 64, pos := "ref.go:80", after := #[{ on := 5, ground := Ground.data }], guard := none }, { dst := some 56, op := Op.buildSlice 43 1 #[(0, Operand.tmp 55)], type := 43, pos := "ref.go:80", after := #[{ on := 6, ground := Ground.data }], guard := none }, { dst := some 57, op := Op.call { callee := Callee.builtin Builtin.append, args := #[Operand.tmp 53, Operand.tmp 56], argTypes := #[43, 43] }, type := 43, pos := "ref.go:80", after := #[{ on := 4, ground := Ground.data }, { on := 7, ground := Ground.data }], guard := none }, { dst := some 58, op := Op.nilCheck (Operand.tmp 49), type := 0, pos := "ref.go:80", after := #[{ on := 0, ground := Ground.data }, { on := 0, ground := Ground.phase }, { on := 1, ground := Ground.phase }, { on := 2, ground := Ground.phase }, { on := 3, ground := Ground.phase }, { on := 4, ground := Ground.phase }, { on := 5, ground := Ground.phase }, { on := 6, ground := Ground.phase }, { on := 7, ground := Ground.phase }, { on := 8, ground := Ground.phase }], guard := none }, { dst := some 59, op := Op.fieldAddr 46 (Operand.tmp 58) 0, type := 0, pos := "ref.go:80", after := #[{ on := 9, ground := Ground.data }, { on := 0, ground := Ground.phase }, { on := 1, ground := Ground.phase }, { on := 2, ground := Ground.phase }, { on := 3, ground := Ground.phase }, { on := 4, ground := Ground.phase }, { on := 5, ground := Ground.phase }, { on := 6, ground := Ground.phase }, { on := 7, ground := Ground.phase }, { on := 8, ground := Ground.phase }], guard := none }, { dst := none, op := Op.store 43 (Operand.tmp 59) (Operand.tmp 57), type := 0, pos := "ref.go:80", after := #[{ on := 10, ground := Ground.data }, { on := 8, ground := Ground.data }, { on := 8, ground := Ground.chain }, { on := 0, ground := Ground.phase }, { on := 1, ground := Ground.phase }, { on := 2, ground := Ground.phase }, { on := 3, ground := Ground.phase }, { on := 4, ground := Ground.phase }, { on := 5, ground := Ground.phase }, { on := 6, ground := Ground.phase }, { on := 7, ground := Ground.phase }, { on := 8, ground := Ground.phase }], guard := none }] true).wp Try.prog Q { tmps := #[.pointer (some ⟨rb, 0, none⟩), u1, u2, .pointer (some ⟨kb, 0, none⟩), u4, u5, u6, u7, u8, u9, u10, u11, u12, u13, u14, u15, u16, u17, u18, u19, u20, u21, u22, u23, u24, u25, u26, u27, u28, u29, u30, u31, u32, u33, u34, u35, u36, u37, u38, u39, u40, u41, u42, u43, u44, u45, u46, u47, u48, u49, u50, u51, u52, u53, u54, u55, u56, u57, u58, u59, u60, u61, u62, u63, u64, u65, u66, u67, u68, u69, u70, u71, u72, u73, u74, u75, u76, u77, u78, u79, u80, u81, u82, u83, u84, u85, u86, u87, u88, u89, u90, u91, u92, u93, u94, u95, u96], defers := [] } X := by
  obtain ⟨iI, zI, ti, tz, tsz, tby, tzs⟩ := ti64
  refine wp_mono (Q := Plain (fun a w => Q .normal a w)) ?_ (fun e a w h => by obtain ⟨rfl, h2⟩ := h; exact h2)
  refine wp_region_held (S := fun w' => Fr (rb :: (Value.slice fa fn fc).ownBlock.toList) X w') (by kernel_rfl) ?_
  change wpAnyH _ _ _ _ _ _ _ _ X.drew
  have F : Fr [] X X.drew := Fr.drew (Fr.refl _ X)
  generalize X.drew = Y at *
  have hS : Fr (rb :: (Value.slice fa fn fc).ownBlock.toList) X Y := F.sub (by simp)
  refine wpAnyH_take (i := 0) (oi := { dst := some 49, op := Op.move (Operand.tmp 0), type := 35, pos := "ref.go:80", after := #[], guard := none }) (v := .pointer (some ⟨rb, 0, none⟩)) rfl (by decide +kernel) (by decide +kernel) (by decide +kernel) (fun _ _ _ h => absurd h.1 (by simp)) (Or.inl ⟨by rfl, fun wq hSq => by first | rfl | go_simp⟩) hS ?_
  simp only [Act.put, List.setIfInBounds_toArray, List.set_cons_zero, List.set_cons_succ]
  refine wpAnyH_take (i := 1) (oi := { dst := some 50, op := Op.move (Operand.tmp 0), type := 35, pos := "ref.go:80", after := #[], guard := none }) (v := .pointer (some ⟨rb, 0, none⟩)) rfl (by decide +kernel) (by decide +kernel) (by decide +kernel) (fun _ _ _ h => absurd h.1 (by simp)) (Or.inl ⟨by rfl, fun wq hSq => by first | rfl | go_simp⟩) hS ?_
  simp only [Act.put, List.setIfInBounds_toArray, List.set_cons_zero, List.set_cons_succ]
  refine wpAnyH_take (i := 2) (oi := { dst := some 51, op := Op.nilCheck (Operand.tmp 50), type := 0, pos := "ref.go:80", after := #[{ on := 1, ground := Ground.data }], guard := none }) (v := .pointer (some ⟨rb, 0, none⟩)) rfl (by decide +kernel) (by decide +kernel) (by decide +kernel) (fun _ _ _ h => absurd h.1 (by simp)) (Or.inl ⟨by rfl, fun wq hSq => by first | rfl | go_simp⟩) hS ?_
  simp only [Act.put, List.setIfInBounds_toArray, List.set_cons_zero, List.set_cons_succ]
  refine wpAnyH_take (i := 3) (oi := { dst := some 52, op := Op.fieldAddr 46 (Operand.tmp 51) 0, type := 0, pos := "ref.go:80", after := #[{ on := 2, ground := Ground.data }], guard := none }) (v := .pointer (some ⟨rb, 0, none⟩)) rfl (by decide +kernel) (by decide +kernel) (by decide +kernel) (fun _ _ _ h => absurd h.1 (by simp)) (Or.inl ⟨by rfl, fun wq hSq => by first | rfl | go_simp⟩) hS ?_
  simp only [Act.put, List.setIfInBounds_toArray, List.set_cons_zero, List.set_cons_succ]
  refine wpAnyH_take (i := 5) (oi := { dst := some 54, op := Op.load 28 (Operand.tmp 3), type := 28, pos := "ref.go:80", after := #[], guard := none }) (v := .agg #[.int .i64 x0, .int .i64 x1, .int .i64 x2, .int .i64 x3, .int .i64 x4, .int .i64 x5, .int .i64 x6, .int .i64 x7, .int .i64 x8, .int .i64 x9]) rfl (by decide +kernel) (by decide +kernel) (by decide +kernel) (fun _ _ _ h => absurd h.1 (by simp)) (yieldsIf_load_mid (by rfl) 28 (.tmp 3) rfl kb 0 rfl [.int .i64 x0, .int .i64 x1, .int .i64 x2, .int .i64 x3, .int .i64 x4, .int .i64 x5, .int .i64 x6, .int .i64 x7, .int .i64 x8, .int .i64 x9] _ l1 Try.underlying28 rfl (by rw [info28]; rfl)) hS ?_
  simp only [Act.put, List.setIfInBounds_toArray, List.set_cons_zero, List.set_cons_succ]
  refine wpAnyH_take (i := 6) (oi := { dst := some 55, op := Op.build 64 #[(0, Operand.tmp 54)], type := 64, pos := "ref.go:80", after := #[{ on := 5, ground := Ground.data }], guard := none }) (v := .agg #[.int .i64 x0, .int .i64 x1, .int .i64 x2, .int .i64 x3, .int .i64 x4, .int .i64 x5, .int .i64 x6, .int .i64 x7, .int .i64 x8, .int .i64 x9, .int .i64 0]) rfl (by decide +kernel) (by decide +kernel) (by decide +kernel) (fun _ _ _ h => absurd h.1 (by simp)) (Or.inl ⟨by rfl, fun wq hSq => by first | rfl | go_simp⟩) hS ?_
  simp only [Act.put, List.setIfInBounds_toArray, List.set_cons_zero, List.set_cons_succ]
  refine wpAnyH_ready (rs := [4, 7]) (by decide +kernel) (by simp) ?_
  refine AllReadyH.cons (o := { dst := some 53, op := Op.load 43 (Operand.tmp 52), type := 43, pos := "ref.go:80", after := #[{ on := 3, ground := Ground.data }], guard := none }) rfl (fun K hK => ?_) ?_
  · skip
    have q1 := cf Y F
    go_simp
    refine hK.out _ _ hS (fun _ => ?_)
    clear hK K
    try simp only [Act.put, List.setIfInBounds_toArray, List.set_cons_zero, List.set_cons_succ]
    refine wpAnyH_ready (rs := [7]) (by decide +kernel) (by simp) ?_
    refine AllReadyH.cons (o := { dst := some 56, op := Op.buildSlice 43 1 #[(0, Operand.tmp 55)], type := 43, pos := "ref.go:80", after := #[{ on := 6, ground := Ground.data }], guard := none }) rfl (fun K hK => ?_) AllReadyH.nil
    go_simp
    have hS := hS.alloc (.cells #[.int .i64 x0, .int .i64 x1, .int .i64 x2, .int .i64 x3, .int .i64 x4, .int .i64 x5, .int .i64 x6, .int .i64 x7, .int .i64 x8, .int .i64 x9, .int .i64 0] 64)
    refine hK.out _ _ hS (fun _ => ?_)
    clear hK K
    try simp only [Act.put, List.setIfInBounds_toArray, List.set_cons_zero, List.set_cons_succ]
    refine wpAnyH_ready (rs := [8]) (by decide +kernel) (by simp) ?_
    refine AllReadyH.cons (o := { dst := some 57, op := Op.call { callee := Callee.builtin Builtin.append, args := #[Operand.tmp 53, Operand.tmp 56], argTypes := #[43, 43] }, type := 43, pos := "ref.go:80", after := #[{ on := 4, ground := Ground.data }, { on := 7, ground := Ground.data }], guard := none }) rfl (fun K hK => ?_) AllReadyH.nil
    refine step_append_src rfl (.tmp 53) (.tmp 56) 43 rfl B 64 iI zI 11 88 Try.underlying43 ti tz tsz tby tzs (by decide) (.slice fa fn fc) fn xs rfl ((own_fr ho F (by simp)).alloc _) (some ⟨Y.heap.size, 0, none⟩) 1 1 [.int .i64 x0, .int .i64 x1, .int .i64 x2, .int .i64 x3, .int .i64 x4, .int .i64 x5, .int .i64 x6, .int .i64 x7, .int .i64 x8, .int .i64 x9, .int .i64 0] rfl rfl (by simp) (fun ad hh => by cases hh; intro j u hu; rw [add_off, Nat.zero_add]; exact at_cells (heap_alloc_new Y (.cells #[.int .i64 x0, .int .i64 x1, .int .i64 x2, .int .i64 x3, .int .i64 x4, .int .i64 x5, .int .i64 x6, .int .i64 x7, .int .i64 x8, .int .i64 x9, .int .i64 0] 64)) j (by simpa using hu)) (by simp [Value.oneCell']) (by unfold maxLen; omega) (by omega) (by have := F.size; simp; omega) ?_
    intro v' X2 ho2 hg2 hl2
    have f2 : Fr (Value.slice fa fn fc).ownBlock.toList X X2 := ((F.sub (by simp)).alloc _).trans ((Fr.ofGrown hg2).sub (fun k hk => .inl hk))
    have hS : Fr (rb :: (Value.slice fa fn fc).ownBlock.toList) X X2 := f2.sub (fun k hk => .inl (by simp at hk; simp [hk]))
    obtain ⟨fa', fc', rfl, _⟩ := own_slice ho2
    have hl3 : ∀ k, (Value.slice fa' (fn + 1) fc').ownBlock = some k → (Value.slice fa fn fc).ownBlock = some k ∨ X.heap.size ≤ k := fun k hk => by (rcases hl2 k hk with h1 | h1; exact .inl h1; exact .inr (by have := F.size; first | omega | (simp at h1; omega)))
    refine hK.out _ _ hS (fun _ => ?_)
    clear hK K
    try simp only [Act.put, List.setIfInBounds_toArray, List.set_cons_zero, List.set_cons_succ]
    refine wpAnyH_take (i := 9) (oi := { dst := some 58, op := Op.nilCheck (Operand.tmp 49), type := 0, pos := "ref.go:80", after := #[{ on := 0, ground := Ground.data }, { on := 0, ground := Ground.phase }, { on := 1, ground := Ground.phase }, { on := 2, ground := Ground.phase }, { on := 3, ground := Ground.phase }, { on := 4, ground := Ground.phase }, { on := 5, ground := Ground.phase }, { on := 6, ground := Ground.phase }, { on := 7, ground := Ground.phase }, { on := 8, ground := Ground.phase }], guard := none }) (v := .pointer (some ⟨rb, 0, none⟩)) rfl (by decide +kernel) (by decide +kernel) (by decide +kernel) (fun _ _ _ h => absurd h.1 (by simp)) (Or.inl ⟨by rfl, fun wq hSq => by first | rfl | go_simp⟩) hS ?_
    simp only [Act.put, List.setIfInBounds_toArray, List.set_cons_zero, List.set_cons_succ]
    refine wpAnyH_take (i := 10) (oi := { dst := some 59, op := Op.fieldAddr 46 (Operand.tmp 58) 0, type := 0, pos := "ref.go:80", after := #[{ on := 9, ground := Ground.data }, { on := 0, ground := Ground.phase }, { on := 1, ground := Ground.phase }, { on := 2, ground := Ground.phase }, { on := 3, ground := Ground.phase }, { on := 4, ground := Ground.phase }, { on := 5, ground := Ground.phase }, { on := 6, ground := Ground.phase }, { on := 7, ground := Ground.phase }, { on := 8, ground := Ground.phase }], guard := none }) (v := .pointer (some ⟨rb, 0, none⟩)) rfl (by decide +kernel) (by decide +kernel) (by decide +kernel) (fun _ _ _ h => absurd h.1 (by simp)) (Or.inl ⟨by rfl, fun wq hSq => by first | rfl | go_simp⟩) hS ?_
    simp only [Act.put, List.setIfInBounds_toArray, List.set_cons_zero, List.set_cons_succ]
    refine wpAnyH_ready (rs := [11]) (by decide +kernel) (by simp) ?_
    refine AllReadyH.cons (o := { dst := none, op := Op.store 43 (Operand.tmp 59) (Operand.tmp 57), type := 0, pos := "ref.go:80", after := #[{ on := 10, ground := Ground.data }, { on := 8, ground := Ground.data }, { on := 8, ground := Ground.chain }, { on := 0, ground := Ground.phase }, { on := 1, ground := Ground.phase }, { on := 2, ground := Ground.phase }, { on := 3, ground := Ground.phase }, { on := 4, ground := Ground.phase }, { on := 5, ground := Ground.phase }, { on := 6, ground := Ground.phase }, { on := 7, ground := Ground.phase }, { on := 8, ground := Ground.phase }], guard := none }) rfl (fun K hK => ?_) AllReadyH.nil
    have q2 := cg _ f2
    have z := fz _ f2
    go_simp
    have hS := hS.setCell (p := ⟨rb, 0, none⟩) (.inl (by simp)) (.slice fa' (fn + 1) fc')
    refine hK.out _ _ hS (fun _ => ?_)
    clear hK K
    try simp only [Act.put, List.setIfInBounds_toArray, List.set_cons_zero, List.set_cons_succ]
    refine wpAnyH_done (by decide +kernel) ?_ _
    exact ⟨rfl, h _ _ _ _ _ _ _ _ _ _ _ _ _ _ f2 ho2 hl3⟩
  refine AllReadyH.cons (o := { dst := some 56, op := Op.buildSlice 43 1 #[(0, Operand.tmp 55)], type := 43, pos := "ref.go:80", after := #[{ on := 6, ground := Ground.data }], guard := none }) rfl (fun K hK => ?_) AllReadyH.nil
  go_simp
  have hS := hS.alloc (.cells #[.int .i64 x0, .int .i64 x1, .int .i64 x2, .int .i64 x3, .int .i64 x4, .int .i64 x5, .int .i64 x6, .int .i64 x7, .int .i64 x8, .int .i64 x9, .int .i64 0] 64)
  refine hK.out _ _ hS (fun _ => ?_)
  clear hK K
  try simp only [Act.put, List.setIfInBounds_toArray, List.set_cons_zero, List.set_cons_succ]
  refine wpAnyH_ready (rs := [4]) (by decide +kernel) (by simp) ?_
  refine AllReadyH.cons (o := { dst := some 53, op := Op.load 43 (Operand.tmp 52), type := 43, pos := "ref.go:80", after := #[{ on := 3, ground := Ground.data }], guard := none }) rfl (fun K hK => ?_) AllReadyH.nil
  have q1 := cf (Y.alloc (.cells #[.int .i64 x0, .int .i64 x1, .int .i64 x2, .int .i64 x3, .int .i64 x4, .int .i64 x5, .int .i64 x6, .int .i64 x7, .int .i64 x8, .int .i64 x9, .int .i64 0] 64)) (F.alloc _)
  go_simp
  refine hK.out _ _ hS (fun _ => ?_)
  clear hK K
  try simp only [Act.put, List.setIfInBounds_toArray, List.set_cons_zero, List.set_cons_succ]
  refine wpAnyH_ready (rs := [8]) (by decide +kernel) (by simp) ?_
  refine AllReadyH.cons (o := { dst := some 57, op := Op.call { callee := Callee.builtin Builtin.append, args := #[Operand.tmp 53, Operand.tmp 56], argTypes := #[43, 43] }, type := 43, pos := "ref.go:80", after := #[{ on := 4, ground := Ground.data }, { on := 7, ground := Ground.data }], guard := none }) rfl (fun K hK => ?_) AllReadyH.nil
  refine step_append_src rfl (.tmp 53) (.tmp 56) 43 rfl B 64 iI zI 11 88 Try.underlying43 ti tz tsz tby tzs (by decide) (.slice fa fn fc) fn xs rfl ((own_fr ho F (by simp)).alloc _) (some ⟨Y.heap.size, 0, none⟩) 1 1 [.int .i64 x0, .int .i64 x1, .int .i64 x2, .int .i64 x3, .int .i64 x4, .int .i64 x5, .int .i64 x6, .int .i64 x7, .int .i64 x8, .int .i64 x9, .int .i64 0] rfl rfl (by simp) (fun ad hh => by cases hh; intro j u hu; rw [add_off, Nat.zero_add]; exact at_cells (heap_alloc_new Y (.cells #[.int .i64 x0, .int .i64 x1, .int .i64 x2, .int .i64 x3, .int .i64 x4, .int .i64 x5, .int .i64 x6, .int .i64 x7, .int .i64 x8, .int .i64 x9, .int .i64 0] 64)) j (by simpa using hu)) (by simp [Value.oneCell']) (by unfold maxLen; omega) (by omega) (by have := F.size; simp; omega) ?_
  intro v' X2 ho2 hg2 hl2
  have f2 : Fr (Value.slice fa fn fc).ownBlock.toList X X2 := ((F.sub (by simp)).alloc _).trans ((Fr.ofGrown hg2).sub (fun k hk => .inl hk))
  have hS : Fr (rb :: (Value.slice fa fn fc).ownBlock.toList) X X2 := f2.sub (fun k hk => .inl (by simp at hk; simp [hk]))
  obtain ⟨fa', fc', rfl, _⟩ := own_slice ho2
  have hl3 : ∀ k, (Value.slice fa' (fn + 1) fc').ownBlock = some k → (Value.slice fa fn fc).ownBlock = some k ∨ X.heap.size ≤ k := fun k hk => by (rcases hl2 k hk with h1 | h1; exact .inl h1; exact .inr (by have := F.size; first | omega | (simp at h1; omega)))
  refine hK.out _ _ hS (fun _ => ?_)
  clear hK K
  try simp only [Act.put, List.setIfInBounds_toArray, List.set_cons_zero, List.set_cons_succ]
  refine wpAnyH_take (i := 9) (oi := { dst := some 58, op := Op.nilCheck (Operand.tmp 49), type := 0, pos := "ref.go:80", after := #[{ on := 0, ground := Ground.data }, { on := 0, ground := Ground.phase }, { on := 1, ground := Ground.phase }, { on := 2, ground := Ground.phase }, { on := 3, ground := Ground.phase }, { on := 4, ground := Ground.phase }, { on := 5, ground := Ground.phase }, { on := 6, ground := Ground.phase }, { on := 7, ground := Ground.phase }, { on := 8, ground := Ground.phase }], guard := none }) (v := .pointer (some ⟨rb, 0, none⟩)) rfl (by decide +kernel) (by decide +kernel) (by decide +kernel) (fun _ _ _ h => absurd h.1 (by simp)) (Or.inl ⟨by rfl, fun wq hSq => by first | rfl | go_simp⟩) hS ?_
  simp only [Act.put, List.setIfInBounds_toArray, List.set_cons_zero, List.set_cons_succ]
  refine wpAnyH_take (i := 10) (oi := { dst := some 59, op := Op.fieldAddr 46 (Operand.tmp 58) 0, type := 0, pos := "ref.go:80", after := #[{ on := 9, ground := Ground.data }, { on := 0, ground := Ground.phase }, { on := 1, ground := Ground.phase }, { on := 2, ground := Ground.phase }, { on := 3, ground := Ground.phase }, { on := 4, ground := Ground.phase }, { on := 5, ground := Ground.phase }, { on := 6, ground := Ground.phase }, { on := 7, ground := Ground.phase }, { on := 8, ground := Ground.phase }], guard := none }) (v := .pointer (some ⟨rb, 0, none⟩)) rfl (by decide +kernel) (by decide +kernel) (by decide +kernel) (fun _ _ _ h => absurd h.1 (by simp)) (Or.inl ⟨by rfl, fun wq hSq => by first | rfl | go_simp⟩) hS ?_
  simp only [Act.put, List.setIfInBounds_toArray, List.set_cons_zero, List.set_cons_succ]
  refine wpAnyH_ready (rs := [11]) (by decide +kernel) (by simp) ?_
  refine AllReadyH.cons (o := { dst := none, op := Op.store 43 (Operand.tmp 59) (Operand.tmp 57), type := 0, pos := "ref.go:80", after := #[{ on := 10, ground := Ground.data }, { on := 8, ground := Ground.data }, { on := 8, ground := Ground.chain }, { on := 0, ground := Ground.phase }, { on := 1, ground := Ground.phase }, { on := 2, ground := Ground.phase }, { on := 3, ground := Ground.phase }, { on := 4, ground := Ground.phase }, { on := 5, ground := Ground.phase }, { on := 6, ground := Ground.phase }, { on := 7, ground := Ground.phase }, { on := 8, ground := Ground.phase }], guard := none }) rfl (fun K hK => ?_) AllReadyH.nil
  have q2 := cg _ f2
  have z := fz _ f2
  go_simp
  have hS := hS.setCell (p := ⟨rb, 0, none⟩) (.inl (by simp)) (.slice fa' (fn + 1) fc')
  refine hK.out _ _ hS (fun _ => ?_)
  clear hK K
  try simp only [Act.put, List.setIfInBounds_toArray, List.set_cons_zero, List.set_cons_succ]
  refine wpAnyH_done (by decide +kernel) ?_ _
  exact ⟨rfl, h _ _ _ _ _ _ _ _ _ _ _ _ _ _ f2 ho2 hl3⟩
set_option maxRecDepth 100000 in
set_option maxHeartbeats 4000000 in
theorem reg17a {X : World} {rb nb g N c p : Nat} {a b : Int} (ca : ∀ w', Fr [] X w' → w'.cell? ⟨nb, 10, none⟩ = some (.int .i64 a)) (c0 : ∀ w', Fr [] X w' → w'.cell? ⟨rb, 0, none⟩ = some (.slice (some ⟨g, 0, none⟩) N c)) (cb : ∀ w', Fr [] X w' → w'.cell? ⟨g, p * 11 + 10, none⟩ = some (.int .i64 b)) (hp : (p : Int) < N) (hN : (N : Int) ≤ 100000)
    {Q : Exit → Act → World → Prop} {u1 u2 u3 u4 u5 u7 u9 u10 u11 u12 u13 u14 u15 u16 u17 u18 u19 u20 u21 u22 u23 u24 u25 u26 u27 u28 u29 u30 u31 u32 u33 u34 u35 u36 u37 u38 u39 u40 u41 u42 u43 u44 u45 u46 u47 u48 u49 u50 u51 u52 u53 u54 u55 u56 u57 u58 u59 u60 u61 u62 u63 u64 u65 u66 u67 u68 u69 u70 u71 u72 u73 u74 u75 u76 u77 u78 u79 u80 u81 u82 u83 u84 u85 u86 u87 u88 u89 u90 u91 u92 u93 u94 u95 u96 : Value}
    (h : ∀ X2, Fr [] X X2 → Q .normal { tmps := #[.pointer (some ⟨rb, 0, none⟩), u1, u2, u3, u4, u5, .int .i64 (p : Nat), u7, .pointer (some ⟨nb, 0, none⟩), u9, u10, u11, u12, u13, u14, u15, u16, u17, u18, u19, u20, u21, u22, u23, u24, u25, u26, u27, u28, u29, u30, u31, u32, .pointer (some ⟨nb, 10, none⟩), .int .i64 a, .pointer (some ⟨rb, 0, none⟩), .pointer (some ⟨rb, 0, none⟩), .pointer (some ⟨rb, 0, none⟩), .slice (some ⟨g, 0, none⟩) N c, .int .i64 (p : Nat), .pointer (some ⟨g, p * 11, none⟩), .pointer (some ⟨g, p * 11 + 10, none⟩), .int .i64 b, .bool (decide (a < b)), u44, u45, u46, u47, u48, u49, u50, u51, u52, u53, u54, u55, u56, u57, u58, u59, u60, u61, u62, u63, u64, u65, u66, u67, u68, u69, u70, u71, u72, u73, u74, u75, u76, u77, u78, u79, u80, u81, u82, u83, u84, u85, u86, u87, u88, u89, u90, u91, u92, u93, u94, u95, u96], defers := [] } X2) :
    (Code.region 10 #[{ dst := some 33, op := Op.fieldAddr 64 (Operand.tmp 8) 1, type := 0, pos := "ref.go:74", after := #[], guard := none }, { dst := some 34, op := Op.load 3 (Operand.tmp 33), type := 3, pos := "ref.go:74", after := #[{ on := 0, ground := Ground.data }], guard := none }, { dst := some 35, op := Op.move (Operand.tmp 0), type := 35, pos := "ref.go:74", after := #[], guard := none }, { dst := some 36, op := Op.nilCheck (Operand.tmp 35), type := 0, pos := "ref.go:74", after := #[{ on := 2, ground := Ground.data }], guard := none }, { dst := some 37, op := Op.fieldAddr 46 (Operand.tmp 36) 0, type := 0, pos := "ref.go:74", after := #[{ on := 3, ground := Ground.data }], guard := none }, { dst := some 38, op := Op.load 43 (Operand.tmp 37), type := 43, pos := "ref.go:74", after := #[{ on := 4, ground := Ground.data }], guard := none }, { dst := some 39, op := Op.move (Operand.tmp 6), type := 3, pos := "ref.go:74", after := #[], guard := none }, { dst := some 40, op := Op.indexAddr 43 (Operand.tmp 38) (Operand.tmp 39), type := 0, pos := "ref.go:74", after := #[{ on := 5, ground := Ground.data }, { on := 6, ground := Ground.data }], guard := none }, { dst := some 41, op := Op.fieldAddr 64 (Operand.tmp 40) 1, type := 0, pos := "ref.go:74", after := #[{ on := 7, ground := Ground.data }], guard := none }, { dst := some 42, op := Op.load 3 (Operand.tmp 41), type := 3, pos := "ref.go:74", after := #[{ on := 8, ground := Ground.data }], guard := none }, { dst := some 43, op := Op.binOp BinOp.lss 3 (Operand.tmp 34) (Operand.tmp 42) 3, type := 4, pos := "ref.go:74", after := #[{ on := 1, ground := Ground.data }, { on := 9, ground := Ground.data }], guard := none }] true).wp Try.prog Q { tmps := #[.pointer (some ⟨rb, 0, none⟩), u1, u2, u3, u4, u5, .int .i64 (p : Nat), u7, .pointer (some ⟨nb, 0, none⟩), u9, u10, u11, u12, u13, u14, u15, u16, u17, u18, u19, u20, u21, u22, u23, u24, u25, u26, u27, u28, u29, u30, u31, u32, u33, u34, u35, u36, u37, u38, u39, u40, u41, u42, u43, u44, u45, u46, u47, u48, u49, u50, u51, u52, u53, u54, u55, u56, u57, u58, u59, u60, u61, u62, u63, u64, u65, u66, u67, u68, u69, u70, u71, u72, u73, u74, u75, u76, u77, u78, u79, u80, u81, u82, u83, u84, u85, u86, u87, u88, u89, u90, u91, u92, u93, u94, u95, u96], defers := [] } X := by
  refine wp_mono (Q := Plain (fun a w => Q .normal a w)) ?_ (fun e a w h => by obtain ⟨rfl, h2⟩ := h; exact h2)
  refine wp_region_held (S := fun w' => Fr [] X w') (by kernel_rfl) ?_
  change wpAnyH _ _ _ _ _ _ _ _ X.drew
  have F : Fr [] X X.drew := Fr.drew (Fr.refl _ X)
  generalize X.drew = Y at *
  have hS := F
  refine wpAnyH_take (i := 0) (oi := { dst := some 33, op := Op.fieldAddr 64 (Operand.tmp 8) 1, type := 0, pos := "ref.go:74", after := #[], guard := none }) (v := .pointer (some ⟨nb, 10, none⟩)) rfl (by decide +kernel) (by decide +kernel) (by decide +kernel) (fun _ _ _ h => absurd h.1 (by simp)) (Or.inl ⟨by rfl, fun wq hSq => by first | rfl | go_simp⟩) hS ?_
  simp only [Act.put, List.setIfInBounds_toArray, List.set_cons_zero, List.set_cons_succ]
  refine wpAnyH_take (i := 1) (oi := { dst := some 34, op := Op.load 3 (Operand.tmp 33), type := 3, pos := "ref.go:74", after := #[{ on := 0, ground := Ground.data }], guard := none }) (v := .int .i64 a) rfl (by decide +kernel) (by decide +kernel) (by decide +kernel) (fun _ _ _ h => absurd h.1 (by simp)) (Or.inl ⟨by rfl, fun wq hSq => by (have q := ca wq hSq; go_simp)⟩) hS ?_
  simp only [Act.put, List.setIfInBounds_toArray, List.set_cons_zero, List.set_cons_succ]
  refine wpAnyH_take (i := 2) (oi := { dst := some 35, op := Op.move (Operand.tmp 0), type := 35, pos := "ref.go:74", after := #[], guard := none }) (v := .pointer (some ⟨rb, 0, none⟩)) rfl (by decide +kernel) (by decide +kernel) (by decide +kernel) (fun _ _ _ h => absurd h.1 (by simp)) (Or.inl ⟨by rfl, fun wq hSq => by first | rfl | go_simp⟩) hS ?_
  simp only [Act.put, List.setIfInBounds_toArray, List.set_cons_zero, List.set_cons_succ]
  refine wpAnyH_take (i := 3) (oi := { dst := some 36, op := Op.nilCheck (Operand.tmp 35), type := 0, pos := "ref.go:74", after := #[{ on := 2, ground := Ground.data }], guard := none }) (v := .pointer (some ⟨rb, 0, none⟩)) rfl (by decide +kernel) (by decide +kernel) (by decide +kernel) (fun _ _ _ h => absurd h.1 (by simp)) (Or.inl ⟨by rfl, fun wq hSq => by first | rfl | go_simp⟩) hS ?_
  simp only [Act.put, List.setIfInBounds_toArray, List.set_cons_zero, List.set_cons_succ]
  refine wpAnyH_take (i := 4) (oi := { dst := some 37, op := Op.fieldAddr 46 (Operand.tmp 36) 0, type := 0, pos := "ref.go:74", after := #[{ on := 3, ground := Ground.data }], guard := none }) (v := .pointer (some ⟨rb, 0, none⟩)) rfl (by decide +kernel) (by decide +kernel) (by decide +kernel) (fun _ _ _ h => absurd h.1 (by simp)) (Or.inl ⟨by rfl, fun wq hSq => by first | rfl | go_simp⟩) hS ?_
  simp only [Act.put, List.setIfInBounds_toArray, List.set_cons_zero, List.set_cons_succ]
  refine wpAnyH_take (i := 5) (oi := { dst := some 38, op := Op.load 43 (Operand.tmp 37), type := 43, pos := "ref.go:74", after := #[{ on := 4, ground := Ground.data }], guard := none }) (v := .slice (some ⟨g, 0, none⟩) N c) rfl (by decide +kernel) (by decide +kernel) (by decide +kernel) (fun _ _ _ h => absurd h.1 (by simp)) (Or.inl ⟨by rfl, fun wq hSq => by (have q := c0 wq hSq; go_simp)⟩) hS ?_
  simp only [Act.put, List.setIfInBounds_toArray, List.set_cons_zero, List.set_cons_succ]
  refine wpAnyH_take (i := 6) (oi := { dst := some 39, op := Op.move (Operand.tmp 6), type := 3, pos := "ref.go:74", after := #[], guard := none }) (v := .int .i64 (p : Nat)) rfl (by decide +kernel) (by decide +kernel) (by decide +kernel) (fun _ _ _ h => absurd h.1 (by simp)) (Or.inl ⟨by rfl, fun wq hSq => by first | rfl | go_simp⟩) hS ?_
  simp only [Act.put, List.setIfInBounds_toArray, List.set_cons_zero, List.set_cons_succ]
  refine wpAnyH_take (i := 7) (oi := { dst := some 40, op := Op.indexAddr 43 (Operand.tmp 38) (Operand.tmp 39), type := 0, pos := "ref.go:74", after := #[{ on := 5, ground := Ground.data }, { on := 6, ground := Ground.data }], guard := none }) (v := .pointer (some ⟨g, p * 11, none⟩)) rfl (by decide +kernel) (by decide +kernel) (by decide +kernel) (fun _ _ _ h => absurd h.1 (by simp)) (Or.inl ⟨by rfl, fun wq hSq => by first | rfl | go_simp⟩) hS ?_
  simp only [Act.put, List.setIfInBounds_toArray, List.set_cons_zero, List.set_cons_succ]
  refine wpAnyH_take (i := 8) (oi := { dst := some 41, op := Op.fieldAddr 64 (Operand.tmp 40) 1, type := 0, pos := "ref.go:74", after := #[{ on := 7, ground := Ground.data }], guard := none }) (v := .pointer (some ⟨g, p * 11 + 10, none⟩)) rfl (by decide +kernel) (by decide +kernel) (by decide +kernel) (fun _ _ _ h => absurd h.1 (by simp)) (Or.inl ⟨by rfl, fun wq hSq => by first | rfl | go_simp⟩) hS ?_
  simp only [Act.put, List.setIfInBounds_toArray, List.set_cons_zero, List.set_cons_succ]
  refine wpAnyH_take (i := 9) (oi := { dst := some 42, op := Op.load 3 (Operand.tmp 41), type := 3, pos := "ref.go:74", after := #[{ on := 8, ground := Ground.data }], guard := none }) (v := .int .i64 b) rfl (by decide +kernel) (by decide +kernel) (by decide +kernel) (fun _ _ _ h => absurd h.1 (by simp)) (Or.inl ⟨by rfl, fun wq hSq => by (have q := cb wq hSq; go_simp)⟩) hS ?_
  simp only [Act.put, List.setIfInBounds_toArray, List.set_cons_zero, List.set_cons_succ]
  refine wpAnyH_take (i := 10) (oi := { dst := some 43, op := Op.binOp BinOp.lss 3 (Operand.tmp 34) (Operand.tmp 42) 3, type := 4, pos := "ref.go:74", after := #[{ on := 1, ground := Ground.data }, { on := 9, ground := Ground.data }], guard := none }) (v := .bool (decide (a < b))) rfl (by decide +kernel) (by decide +kernel) (by decide +kernel) (fun _ _ _ h => absurd h.1 (by simp)) (Or.inl ⟨by rfl, fun wq hSq => by first | rfl | go_simp⟩) hS ?_
  simp only [Act.put, List.setIfInBounds_toArray, List.set_cons_zero, List.set_cons_succ]
  refine wpAnyH_done (by decide +kernel) ?_ _
  exact ⟨rfl, h _ F⟩
set_option maxRecDepth 100000 in
set_option maxHeartbeats 4000000 in
theorem reg17c {X : World} {rb g N c p : Nat} {a b : Int} (ca : ∀ w', Fr [] X w' → w'.cell? ⟨g, p * 11 + 10, none⟩ = some (.int .i64 a)) (c0 : ∀ w', Fr [] X w' → w'.cell? ⟨rb, 0, none⟩ = some (.slice (some ⟨g, 0, none⟩) N c)) (cb : ∀ w', Fr [] X w' → w'.cell? ⟨rb, 2, none⟩ = some (.int .i64 b)) (hp : (p : Int) < N) (hN : (N : Int) ≤ 100000)
    {Q : Exit → Act → World → Prop} {u1 u2 u3 u4 u6 u7 u8 u9 u10 u11 u12 u13 u14 u15 u16 u17 u18 u19 u20 u21 u22 u23 u24 u25 u26 u27 u28 u29 u30 u31 u32 u33 u34 u35 u36 u37 u38 u39 u40 u41 u42 u43 u44 u45 u46 u47 u48 u49 u50 u51 u52 u53 u54 u55 u56 u57 u58 u59 u60 u61 u62 u63 u64 u65 u66 u67 u68 u69 u70 u71 u72 u73 u74 u75 u76 u77 u78 u79 u80 u81 u82 u83 u84 u85 u86 u87 u88 u89 u90 u91 u92 u93 u94 u95 u96 : Value}
    (h : ∀ X2, Fr [] X X2 → Q .normal { tmps := #[.pointer (some ⟨rb, 0, none⟩), u1, u2, u3, u4, .int .i64 (p : Nat), u6, u7, u8, u9, u10, u11, u12, u13, u14, u15, u16, u17, u18, u19, u20, u21, u22, u23, u24, u25, u26, u27, u28, u29, u30, u31, u32, u33, u34, u35, u36, u37, u38, u39, u40, u41, u42, u43, u44, u45, u46, u47, u48, u49, u50, u51, u52, u53, u54, u55, u56, u57, u58, u59, u60, u61, u62, u63, u64, u65, u66, u67, u68, u69, u70, u71, u72, u73, u74, u75, u76, .pointer (some ⟨rb, 0, none⟩), .pointer (some ⟨rb, 0, none⟩), .pointer (some ⟨rb, 0, none⟩), .slice (some ⟨g, 0, none⟩) N c, .int .i64 (p : Nat), .pointer (some ⟨g, p * 11, none⟩), .pointer (some ⟨g, p * 11 + 10, none⟩), .int .i64 a, .pointer (some ⟨rb, 0, none⟩), .pointer (some ⟨rb, 0, none⟩), .pointer (some ⟨rb, 2, none⟩), .int .i64 b, .bool (decide (a < b)), u90, u91, u92, u93, u94, u95, u96], defers := [] } X2) :
    (Code.region 17 #[{ dst := some 77, op := Op.move (Operand.tmp 0), type := 35, pos := "ref.go:84", after := #[], guard := none }, { dst := some 78, op := Op.nilCheck (Operand.tmp 77), type := 0, pos := "ref.go:84", after := #[{ on := 0, ground := Ground.data }], guard := none }, { dst := some 79, op := Op.fieldAddr 46 (Operand.tmp 78) 0, type := 0, pos := "ref.go:84", after := #[{ on := 1, ground := Ground.data }], guard := none }, { dst := some 80, op := Op.load 43 (Operand.tmp 79), type := 43, pos := "ref.go:84", after := #[{ on := 2, ground := Ground.data }], guard := none }, { dst := some 81, op := Op.move (Operand.tmp 5), type := 3, pos := "ref.go:84", after := #[], guard := none }, { dst := some 82, op := Op.indexAddr 43 (Operand.tmp 80) (Operand.tmp 81), type := 0, pos := "ref.go:84", after := #[{ on := 3, ground := Ground.data }, { on := 4, ground := Ground.data }], guard := none }, { dst := some 83, op := Op.fieldAddr 64 (Operand.tmp 82) 1, type := 0, pos := "ref.go:84", after := #[{ on := 5, ground := Ground.data }], guard := none }, { dst := some 84, op := Op.load 3 (Operand.tmp 83), type := 3, pos := "ref.go:84", after := #[{ on := 6, ground := Ground.data }], guard := none }, { dst := some 85, op := Op.move (Operand.tmp 0), type := 35, pos := "ref.go:84", after := #[], guard := none }, { dst := some 86, op := Op.nilCheck (Operand.tmp 85), type := 0, pos := "ref.go:84", after := #[{ on := 8, ground := Ground.data }], guard := none }, { dst := some 87, op := Op.fieldAddr 46 (Operand.tmp 86) 2, type := 0, pos := "ref.go:84", after := #[{ on := 9, ground := Ground.data }], guard := none }, { dst := some 88, op := Op.load 3 (Operand.tmp 87), type := 3, pos := "ref.go:84", after := #[{ on := 10, ground := Ground.data }], guard := none }, { dst := some 89, op := Op.binOp BinOp.lss 3 (Operand.tmp 84) (Operand.tmp 88) 3, type := 4, pos := "ref.go:84", after := #[{ on := 7, ground := Ground.data }, { on := 11, ground := Ground.data }], guard := none }] true).wp Try.prog Q { tmps := #[.pointer (some ⟨rb, 0, none⟩), u1, u2, u3, u4, .int .i64 (p : Nat), u6, u7, u8, u9, u10, u11, u12, u13, u14, u15, u16, u17, u18, u19, u20, u21, u22, u23, u24, u25, u26, u27, u28, u29, u30, u31, u32, u33, u34, u35, u36, u37, u38, u39, u40, u41, u42, u43, u44, u45, u46, u47, u48, u49, u50, u51, u52, u53, u54, u55, u56, u57, u58, u59, u60, u61, u62, u63, u64, u65, u66, u67, u68, u69, u70, u71, u72, u73, u74, u75, u76, u77, u78, u79, u80, u81, u82, u83, u84, u85, u86, u87, u88, u89, u90, u91, u92, u93, u94, u95, u96], defers := [] } X := by
  refine wp_mono (Q := Plain (fun a w => Q .normal a w)) ?_ (fun e a w h => by obtain ⟨rfl, h2⟩ := h; exact h2)
  refine wp_region_held (S := fun w' => Fr [] X w') (by kernel_rfl) ?_
  change wpAnyH _ _ _ _ _ _ _ _ X.drew
  have F : Fr [] X X.drew := Fr.drew (Fr.refl _ X)
  generalize X.drew = Y at *
  have hS := F
  refine wpAnyH_take (i := 0) (oi := { dst := some 77, op := Op.move (Operand.tmp 0), type := 35, pos := "ref.go:84", after := #[], guard := none }) (v := .pointer (some ⟨rb, 0, none⟩)) rfl (by decide +kernel) (by decide +kernel) (by decide +kernel) (fun _ _ _ h => absurd h.1 (by simp)) (Or.inl ⟨by rfl, fun wq hSq => by first | rfl | go_simp⟩) hS ?_
  simp only [Act.put, List.setIfInBounds_toArray, List.set_cons_zero, List.set_cons_succ]
  refine wpAnyH_take (i := 1) (oi := { dst := some 78, op := Op.nilCheck (Operand.tmp 77), type := 0, pos := "ref.go:84", after := #[{ on := 0, ground := Ground.data }], guard := none }) (v := .pointer (some ⟨rb, 0, none⟩)) rfl (by decide +kernel) (by decide +kernel) (by decide +kernel) (fun _ _ _ h => absurd h.1 (by simp)) (Or.inl ⟨by rfl, fun wq hSq => by first | rfl | go_simp⟩) hS ?_
  simp only [Act.put, List.setIfInBounds_toArray, List.set_cons_zero, List.set_cons_succ]
  refine wpAnyH_take (i := 2) (oi := { dst := some 79, op := Op.fieldAddr 46 (Operand.tmp 78) 0, type := 0, pos := "ref.go:84", after := #[{ on := 1, ground := Ground.data }], guard := none }) (v := .pointer (some ⟨rb, 0, none⟩)) rfl (by decide +kernel) (by decide +kernel) (by decide +kernel) (fun _ _ _ h => absurd h.1 (by simp)) (Or.inl ⟨by rfl, fun wq hSq => by first | rfl | go_simp⟩) hS ?_
  simp only [Act.put, List.setIfInBounds_toArray, List.set_cons_zero, List.set_cons_succ]
  refine wpAnyH_take (i := 3) (oi := { dst := some 80, op := Op.load 43 (Operand.tmp 79), type := 43, pos := "ref.go:84", after := #[{ on := 2, ground := Ground.data }], guard := none }) (v := .slice (some ⟨g, 0, none⟩) N c) rfl (by decide +kernel) (by decide +kernel) (by decide +kernel) (fun _ _ _ h => absurd h.1 (by simp)) (Or.inl ⟨by rfl, fun wq hSq => by (have q := c0 wq hSq; go_simp)⟩) hS ?_
  simp only [Act.put, List.setIfInBounds_toArray, List.set_cons_zero, List.set_cons_succ]
  refine wpAnyH_take (i := 4) (oi := { dst := some 81, op := Op.move (Operand.tmp 5), type := 3, pos := "ref.go:84", after := #[], guard := none }) (v := .int .i64 (p : Nat)) rfl (by decide +kernel) (by decide +kernel) (by decide +kernel) (fun _ _ _ h => absurd h.1 (by simp)) (Or.inl ⟨by rfl, fun wq hSq => by first | rfl | go_simp⟩) hS ?_
  simp only [Act.put, List.setIfInBounds_toArray, List.set_cons_zero, List.set_cons_succ]
  refine wpAnyH_take (i := 5) (oi := { dst := some 82, op := Op.indexAddr 43 (Operand.tmp 80) (Operand.tmp 81), type := 0, pos := "ref.go:84", after := #[{ on := 3, ground := Ground.data }, { on := 4, ground := Ground.data }], guard := none }) (v := .pointer (some ⟨g, p * 11, none⟩)) rfl (by decide +kernel) (by decide +kernel) (by decide +kernel) (fun _ _ _ h => absurd h.1 (by simp)) (Or.inl ⟨by rfl, fun wq hSq => by first | rfl | go_simp⟩) hS ?_
  simp only [Act.put, List.setIfInBounds_toArray, List.set_cons_zero, List.set_cons_succ]
  refine wpAnyH_take (i := 6) (oi := { dst := some 83, op := Op.fieldAddr 64 (Operand.tmp 82) 1, type := 0, pos := "ref.go:84", after := #[{ on := 5, ground := Ground.data }], guard := none }) (v := .pointer (some ⟨g, p * 11 + 10, none⟩)) rfl (by decide +kernel) (by decide +kernel) (by decide +kernel) (fun _ _ _ h => absurd h.1 (by simp)) (Or.inl ⟨by rfl, fun wq hSq => by first | rfl | go_simp⟩) hS ?_
  simp only [Act.put, List.setIfInBounds_toArray, List.set_cons_zero, List.set_cons_succ]
  refine wpAnyH_take (i := 7) (oi := { dst := some 84, op := Op.load 3 (Operand.tmp 83), type := 3, pos := "ref.go:84", after := #[{ on := 6, ground := Ground.data }], guard := none }) (v := .int .i64 a) rfl (by decide +kernel) (by decide +kernel) (by decide +kernel) (fun _ _ _ h => absurd h.1 (by simp)) (Or.inl ⟨by rfl, fun wq hSq => by (have q := ca wq hSq; go_simp)⟩) hS ?_
  simp only [Act.put, List.setIfInBounds_toArray, List.set_cons_zero, List.set_cons_succ]
  refine wpAnyH_take (i := 8) (oi := { dst := some 85, op := Op.move (Operand.tmp 0), type := 35, pos := "ref.go:84", after := #[], guard := none }) (v := .pointer (some ⟨rb, 0, none⟩)) rfl (by decide +kernel) (by decide +kernel) (by decide +kernel) (fun _ _ _ h => absurd h.1 (by simp)) (Or.inl ⟨by rfl, fun wq hSq => by first | rfl | go_simp⟩) hS ?_
  simp only [Act.put, List.setIfInBounds_toArray, List.set_cons_zero, List.set_cons_succ]
  refine wpAnyH_take (i := 9) (oi := { dst := some 86, op := Op.nilCheck (Operand.tmp 85), type := 0, pos := "ref.go:84", after := #[{ on := 8, ground := Ground.data }], guard := none }) (v := .pointer (some ⟨rb, 0, none⟩)) rfl (by decide +kernel) (by decide +kernel) (by decide +kernel) (fun _ _ _ h => absurd h.1 (by simp)) (Or.inl ⟨by rfl, fun wq hSq => by first | rfl | go_simp⟩) hS ?_
  simp only [Act.put, List.setIfInBounds_toArray, List.set_cons_zero, List.set_cons_succ]
  refine wpAnyH_take (i := 10) (oi := { dst := some 87, op := Op.fieldAddr 46 (Operand.tmp 86) 2, type := 0, pos := "ref.go:84", after := #[{ on := 9, ground := Ground.data }], guard := none }) (v := .pointer (some ⟨rb, 2, none⟩)) rfl (by decide +kernel) (by decide +kernel) (by decide +kernel) (fun _ _ _ h => absurd h.1 (by simp)) (Or.inl ⟨by rfl, fun wq hSq => by first | rfl | go_simp⟩) hS ?_
  simp only [Act.put, List.setIfInBounds_toArray, List.set_cons_zero, List.set_cons_succ]
  refine wpAnyH_take (i := 11) (oi := { dst := some 88, op := Op.load 3 (Operand.tmp 87), type := 3, pos := "ref.go:84", after := #[{ on := 10, ground := Ground.data }], guard := none }) (v := .int .i64 b) rfl (by decide +kernel) (by decide +kernel) (by decide +kernel) (fun _ _ _ h => absurd h.1 (by simp)) (Or.inl ⟨by rfl, fun wq hSq => by (have q := cb wq hSq; go_simp)⟩) hS ?_
  simp only [Act.put, List.setIfInBounds_toArray, List.set_cons_zero, List.set_cons_succ]
  refine wpAnyH_take (i := 12) (oi := { dst := some 89, op := Op.binOp BinOp.lss 3 (Operand.tmp 84) (Operand.tmp 88) 3, type := 4, pos := "ref.go:84", after := #[{ on := 7, ground := Ground.data }, { on := 11, ground := Ground.data }], guard := none }) (v := .bool (decide (a < b))) rfl (by decide +kernel) (by decide +kernel) (by decide +kernel) (fun _ _ _ h => absurd h.1 (by simp)) (Or.inl ⟨by rfl, fun wq hSq => by first | rfl | go_simp⟩) hS ?_
  simp only [Act.put, List.setIfInBounds_toArray, List.set_cons_zero, List.set_cons_succ]
  refine wpAnyH_done (by decide +kernel) ?_ _
  exact ⟨rfl, h _ F⟩
end Go.Proofs.Ytjeddgjndpdhoaa
