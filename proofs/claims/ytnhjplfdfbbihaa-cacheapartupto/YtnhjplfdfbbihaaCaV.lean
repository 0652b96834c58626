/-
  A member is struck out of a row: which one; condition: the row lies as told.
-/
import Derived.Test.YtnhjplfdfbbihaaCaU
import Derived.Test.YtnhjplfdfbbihaaCaN
namespace Go.Proofs.Ytnhjplfdfbbihaa
open Go.RowKit Go.Shelf Go.Lib Go.Sort
set_option linter.unusedVariables false
set_option linter.unusedSimpArgs false
theorem info83 : (Try.prog.info? 83).map (·.size) = some 11 := by kernel_rfl
theorem mcp_all (x : Mb) : (mcp x).toArray.all (·.oneCell') = true := by
  rw [Array.all_eq_true_iff_forall_mem]
  intro u hu
  exact mcp_one x u (by simpa using hu)
theorem wpList_ld83 {ops : Array Oper} {rest : List Oper} {o : Oper} {a : Act} {w : World} {Q : Exit → Act → World → Prop} (hgd : o.guard = none) (x : Operand) (ho : o.op = .load 83 x)
    (b off : Nat) (hx : a.eval x = .pointer (some ⟨b, off, none⟩)) (y : Mb) (hc : w.rangeAt b off (mcp y))
    (h : wpList Try.prog ops Q rest (a.put o.dst (.agg (mcp y).toArray)) w) : wpList Try.prog ops Q (o :: rest) a w :=
  wpList_load_mid hgd 83 x ho b off hx (mcp y) _ hc Try.underlying83 rfl (by rw [info83, mcp_len]) h
theorem wpList_bin {ops : Array Oper} {rest : List Oper} {o : Oper} {a : Act} {w : World} {Q : Exit → Act → World → Prop} (hgd : o.guard = none) (op : BinOp) (ty : TypeId) (x y : Operand) (ho : o.op = .binOp op ty x y ty) (u v r : Value) (hx : a.eval x = u) (hy : a.eval y = v)
    (hg : (eqGuard op ty x y u v).run Try.prog w = .ok () w) (hr : (binOp op ty u v).run Try.prog w = .ok r w) (h : wpList Try.prog ops Q rest (a.put o.dst r) w) : wpList Try.prog ops Q (o :: rest) a w := by
  refine wpList_plain hgd fun K hK => ?_
  unfold Oper.wp execOp
  simp only [ho, hx, hy, Sem.run_bind, hg, hr, Result.andThen_ok, Sem.run_pure]
  exact hK _ _ h
def Mb.w (x : Mb) : Prop := (Lit.int .i64 x.1).wf = true ∧ kw x.2
instance : DecidableEq Mb := inferInstance
set_option maxRecDepth 100000 in
theorem clo41 {W : World} {gb : Nat} (x y : Mb) (hx : Mb.w x) (hy : Mb.w y) (hb : W.heap[gb]? = some (.cells (mcp y).toArray 83 (0, 0))) :
    Calls Try.prog 41 (#[.agg (mcp x).toArray] ++ #[.pointer (some ⟨gb, 0, none⟩)]) W fun e w' => e = .returned (.bool (decide (x.1 = y.1 ∧ x.2 = y.2))) ∧ Fr [] W w' := by
  have F1 : Fr [] W (W.alloc (.cells (mcp x).toArray 83)) := (Fr.refl _ _).alloc _
  have r1 := range_block (heap_alloc_new W (.cells (mcp x).toArray 83))
  have r2 := range_block ((F1.block _ (Array.getElem?_eq_some_iff.1 hb).1 (by simp)).trans hb)
  have R1 : Hid ((W.alloc (.cells (mcp x).toArray 83)).rangeAt W.heap.size 0 (mcp x)) := r1
  have R2 : Hid ((W.alloc (.cells (mcp x).toArray 83)).rangeAt gb 0 (mcp y)) := r2
  have HE : Hid (∀ w, (binOp .eql 83 (.agg (mcp x).toArray) (.agg (mcp y).toArray)).run Try.prog w = .ok (.bool (decide (x.1 = y.1 ∧ x.2 = y.2))) w) := fun w => eql83 w hx.1 hx.2 hy.1 hy.2
  have HF : Hid (Fr [] W (W.alloc (.cells (mcp x).toArray 83))) := F1
  clear F1 r1 r2 hb hx hy
  generalize decide (x.1 = y.1 ∧ x.2 = y.2) = r at *
  go_enter Try.func41, Try.ntmps41
  go_upto_region 1 with fail
  generalize W.alloc (.cells (mcp x).toArray 83) = V at *
  go_wp2_with (first
    | refine wpList_ld83 rfl (.tmp 2) rfl W.heap.size 0 rfl x R1.out ?_
    | refine wpList_ld83 rfl (.tmp 1) rfl gb 0 rfl y R2.out ?_
    | refine wpList_bin rfl .eql 83 (.tmp 4) (.tmp 5) rfl _ _ _ rfl rfl (eguard83 _ .eql _ _ _ _ (.inl rfl)) (HE.out _) ?_)
  go_ret
  exact ⟨rfl, HF.out⟩
theorem rowM_at {w : World} {B g c : Nat} {L : List Mb} (h : w.ownsRow B 83 11 (.slice (some ⟨g, 0, none⟩) L.length c) L.length (flatM L)) {i : Nat} {x : Mb} (hx : L[i]? = some x) : w.rangeAt g (i * 11) (mcp x) := fun j v hv => by
  have hj : j < 11 := by have := (List.getElem?_eq_some_iff.1 hv).1; rw [mcp_len] at this; exact this
  have h2 := flat_at (f := mcp) (fun x _ => mcp_len x) hx j hj
  obtain ⟨g', c', e1, hc, _⟩ := own_cells h (h2.trans hv)
  cases e1
  exact hc
set_option maxRecDepth 100000 in
set_option maxHeartbeats 2000000 in
theorem idx53_any {w : World} {B g c gb i : Nat} {L : List Mb} {y : Mb} (h : w.ownsRow B 83 11 (.slice (some ⟨g, 0, none⟩) L.length c) L.length (flatM L)) (hn : (L.length : Int) ≤ 1000000000000) (hw : ∀ x ∈ L, Mb.w x)
    (hb : w.heap[gb]? = some (.cells (mcp y).toArray 83 (0, 0))) (hi : L[i]? = some y) (hlt : ∀ j x, j < i → L[j]? = some x → x.1 ≠ y.1) :
    Calls Try.prog 53 #[.slice (some ⟨g, 0, none⟩) L.length c, .func (.func 41) #[] #[.pointer (some ⟨gb, 0, none⟩)]] w fun e w' => e = .returned (.int .i64 (i : Nat)) ∧ Fr [] w w' := by
  have eg : ∀ args w, (callFunc 41 args).run Try.prog w = .ok (.enter 41 args) w := enters_of Try.func41 (by kernel_rfl) rfl
  have HO : Hid (w.ownsRow B 83 11 (.slice (some ⟨g, 0, none⟩) L.length c) L.length (flatM L)) := h
  have HW : Hid (∀ x ∈ L, Mb.w x) := hw
  have HB : Hid (w.heap[gb]? = some (.cells (mcp y).toArray 83 (0, 0))) := hb
  have HI : Hid (L[i]? = some y) := hi
  have HL : Hid (∀ j x, j < i → L[j]? = some x → x.1 ≠ y.1) := hlt
  have F0 : Hid (Fr [] w w) := Fr.refl _ _
  have hiL := (List.getElem?_eq_some_iff.1 hi).1
  clear h hw hb hi hlt
  go_enter Try.func53, Try.ntmps53
  go_wp2
  go_loopw [8] (fun k wr => ∃ p : Nat, p ≤ i ∧ k = .int .i64 p ∧ Hid (Fr [] w wr)) (fun k _ => L.length - (intOf k).toNat)
  case atStart => exact ⟨0, Nat.zero_le _, rfl, F0⟩
  case round =>
    obtain ⟨p, hp, rfl, F⟩ := hrel
    have hpL : (p : Int) < L.length := by omega
    obtain ⟨x, hx⟩ : ∃ x, L[p]? = some x := ⟨_, List.getElem?_eq_getElem (by omega)⟩
    have RX : Hid (wr.rangeAt g (p * 11) (mcp x)) := rowM_at (own_fr HO.out F.out (by simp)) hx
    have C := clo41 (W := wr) x y (HW.out x (List.mem_of_getElem? hx)) (HW.out y (List.mem_of_getElem? HI.out)) ((F.out.block _ (Array.getElem?_eq_some_iff.1 HB.out).1 (by simp)).trans HB.out)
    by_cases hpi : p = i
    · subst hpi
      have hxy : x = y := by have := HI.out; rw [hx] at this; exact Option.some.inj this
      have e : decide (x.1 = y.1 ∧ x.2 = y.2) = true := by rw [hxy]; simp
      rw [e] at C
      clear e hxy hx
      go_wp2_with (first
        | refine wpList_ld83 rfl (.tmp 14) rfl g (p * 11) rfl x RX.out ?_
        | (go_at_fn 41; refine C.mono ?_; rintro e w' ⟨rfl, f⟩))
      go_ret
      exact ⟨rfl, F.out.trans f⟩
    · have hne := HL.out p x (by omega) hx
      have e : decide (x.1 = y.1 ∧ x.2 = y.2) = false := by simp [hne]
      rw [e] at C
      have hpi2 : p + 1 ≤ i := by omega
      clear e hne hx hpi
      go_wp2_with (first
        | refine wpList_ld83 rfl (.tmp 14) rfl g (p * 11) rfl x RX.out ?_
        | (go_at_fn 41; refine C.mono ?_; rintro e w' ⟨rfl, f⟩))
      have HF : Hid (Fr [] w w') := F.out.trans f
      clear f
      go_roundw
      case rel => exact ⟨p + 1, hpi2, by go_num, HF⟩
      case measure => simp [intOf]; omega
end Go.Proofs.Ytnhjplfdfbbihaa
