/-
  In a trace that may be everything that is used is made ahead; condition: the table lies as laid, the trace lies as told and holds little.
-/
import Derived.Test.YtkogfgbgmifcnaaDoorTeD
import Derived.Test.YtkogfgbgmifcnaaDoorTdF
import Derived.Test.YtkogfgbgmifcnaaDoorSaJ
import Derived.Test.YtkogfgbgmifcnaaDoorDor
namespace Go.Proofs.YtkogfgbgmifcnaaDoor
open Go.RowKit Go.Shelf Go.Maps
set_option linter.unusedVariables false
set_option linter.unusedSimpArgs false
/-- What is small about a trace. -/
structure Small (t : Tr) : Prop where
  ins : t.ins.length ≤ 1048576
  ops : t.ops.length ≤ 1048576
  links : t.links.length ≤ 1048576
  virts : t.virts.length ≤ 1048576
  back : t.back.length ≤ 1048576
  args : ∀ e ∈ t.ops, e.l.length ≤ 1048576
theorem abs_lens (t : Tr) : t.abs.ops.length = t.ops.length ∧ t.abs.links.length = t.links.length ∧ t.abs.virts.length = t.virts.length ∧ t.abs.back = t.back ∧ t.abs.ins = t.ins := by simp [Tr.abs]
/-- Uses, of a trace that may be. -/
theorem uses_ok {w : World} {B : Nat} {t : Tr} (ht : Tab w) (hT : TrOk w B t) (ha : ATOk t.abs) (hok : wholeP t.abs = none) (hs : Small t) {i : Nat} (hi : i ≤ t.ops.length) :
    Calls Tryd.prog 18 #[.agg t.arr, .int .i64 i] w fun e w' => ∃ a c, e = .returned (.slice a (usesP t.abs i).length c) ∧ (∀ j x, (usesP t.abs i)[j]? = some x → ∃ b, a = some ⟨b, 0, none⟩ ∧ w'.cell? ⟨b, j, none⟩ = some (.int .i64 x)) ∧ (usesP t.abs i).length ≤ 4000000000 ∧ Fr [] w w' := by
  obtain ⟨l1, l2, l3, l4, l5⟩ := abs_lens t
  have hW := whole_of ha hok
  have hlen := hW.told_len (N := 1048576) (by rw [l2]; exact hs.links) (by rw [l3]; exact hs.virts) (by rw [l4]; exact hs.back) (fun e he => by
    obtain ⟨y, hy, rfl⟩ := List.mem_map.1 he
    exact hs.args y hy) i
  have e1 : usesP t.abs i = Lib.compact ((vr (toldP t.abs i)).mergeSort fun x y => decide (x ≤ y)) := by
    unfold usesP
    rw [if_neg (by rw [l1]; rintro (h | h | h); omega; omega; exact h hok)]
    rfl
  have hTk := takes_of (tellSpec t) hT hW.good hi (fun e he => by have := hW.sn he; rw [l2] at this; exact this)
  refine (uses18g (tellSpec t) ht hT ha hok hi (by omega) hTk).mono ?_
  rintro e w' ⟨a, c, rfl, hc, hf⟩
  rw [e1]
  refine ⟨a, c, rfl, hc, ?_, hf⟩
  have h1 := Lib.compact_length_le ((vr (toldP t.abs i)).mergeSort fun x y => decide (x ≤ y))
  rw [List.length_mergeSort] at h1
  have h2 := vr_len (toldP t.abs i)
  omega
set_option maxRecDepth 100000 in
set_option maxHeartbeats 16000000 in
theorem traceFirst_walk (t : Tr) (w : World) {B : Nat} (hT : TrOk w B t) (ha : ATOk t.abs) (hs : Small t) (ht : Tab w) : Calls Tryd.prog 7 #[.agg t.arr] w fun e w' => e = .returned (.bool true) ∧ Fr [] w w' := by
  have F1 : Fr [] w (w.alloc (.cells t.arr 33)) := (Fr.refl _ _).alloc _
  have HX : Hid ((w.alloc (.cells t.arr 33)).heap[w.heap.size]? = some (.cells t.arr 33 (0, 0)) ∧ TrOk (w.alloc (.cells t.arr 33)) B t ∧ Tab (w.alloc (.cells t.arr 33))) := ⟨heap_alloc_new w _, hT.fr0 F1, ht.fr0 F1⟩
  have HA : Hid (ATOk t.abs ∧ Small t) := ⟨ha, hs⟩
  have HF : Hid (Fr [] w (w.alloc (.cells t.arr 33))) := F1
  have CA := awake8 (ht.fr0 F1)
  clear hT ha hs ht F1
  go_enter Tryd.func7, Tryd.ntmps7
  go_upto_region 1 with fail
  generalize w.alloc (.cells t.arr 33) = W at *
  generalize w.heap.size = bt at *
  go_upto_region 3 with (go_at_call 8; refine CA.mono ?_; rintro e W1 ⟨rfl, f1⟩)
  have HX1 : Hid (W1.heap[bt]? = some (.cells t.arr 33 (0, 0)) ∧ TrOk W1 B t ∧ Tab W1 ∧ Fr [] w W1) := ⟨(f1.block _ (at_lt HX.out.1) (by simp)).trans HX.out.1, HX.out.2.1.fr0 f1, HX.out.2.2.fr0 f1, HF.out.trans f1⟩
  clear CA f1 HX HF
  have C9 := few9 HX1.out.2.1
  have A1 : Hid True := trivial
  go_upto_region 5 with (first
    | (have hA1 := A1; clear A1 hA1; refine wpList_ld33 rfl (.tmp 1) rfl bt rfl t.arr t.arr_size HX1.out.1 ?_)
    | (go_at_call 9; refine C9.mono ?_; rintro e W2 ⟨b, rfl, f2⟩; have HX2 : Hid (W2.heap[bt]? = some (.cells t.arr 33 (0, 0)) ∧ TrOk W2 B t ∧ Tab W2 ∧ Fr [] w W2) := ⟨(f2.block _ (at_lt HX1.out.1) (by simp)).trans HX1.out.1, HX1.out.2.1.fr0 f2, HX1.out.2.2.1.fr0 f2, HX1.out.2.2.2.trans f2⟩; clear C9 f2; cases b))
  · go_ret
    exact ⟨rfl, HX2.out.2.2.2⟩
  clear HX1
  have CK := check23 (tellSpec t) HX2.out.2.2.1 HX2.out.2.1 HA.out.1
  have hE : (wholeP t.abs = none ∧ chkAt t.abs = 0 ∧ chkE t.abs = 0) ∨ chkE t.abs = 160 := by
    unfold chkAt chkE
    cases wholeP t.abs with
    | none => exact .inl ⟨rfl, rfl, rfl⟩
    | some v => exact .inr rfl
  have A1 : Hid True := trivial
  rcases hE with ⟨hok, e1, e2⟩ | e2
  rotate_left
  · rw [e2] at CK
    clear e2
    generalize chkAt t.abs = ck at *
    go_upto_region 8 with (first
      | (have hA1 := A1; clear A1 hA1; refine wpList_ld33 rfl (.tmp 1) rfl bt rfl t.arr t.arr_size HX2.out.1 ?_)
      | (go_at_call 23; refine CK.mono ?_; rintro e W3 ⟨rfl, f3⟩))
    go_ret
    exact ⟨rfl, HX2.out.2.2.2.trans f3⟩
  rw [e1, e2] at CK
  clear e1 e2
  go_upto_region 8 with (first
    | (have hA1 := A1; clear A1 hA1; refine wpList_ld33 rfl (.tmp 1) rfl bt rfl t.arr t.arr_size HX2.out.1 ?_)
    | (go_at_call 23; refine CK.mono ?_; rintro e W3 ⟨rfl, f3⟩))
  have HX3 : Hid (W3.heap[bt]? = some (.cells t.arr 33 (0, 0)) ∧ TrOk W3 B t ∧ Tab W3 ∧ Fr [] w W3) := ⟨(f3.block _ (at_lt HX2.out.1) (by simp)).trans HX2.out.1, HX2.out.2.1.fr0 f3, HX2.out.2.2.1.fr0 f3, HX2.out.2.2.2.trans f3⟩
  have HOK : Hid (wholeP t.abs = none) := hok
  clear HX2 CK f3 hok
  have nO : (t.ops.length : Int) ≤ 1048576 := by have := HA.out.2.ops; omega
  have nI : (t.ins.length : Int) ≤ 1048576 := by have := HA.out.2.ins; omega
  have F0 : Hid (Fr [] W3 W3) := Fr.refl _ _
  go_wp2
  go_loopw [5] (fun i wr => ∃ p : Nat, p ≤ t.ops.length + 1 ∧ i = .int .i64 p ∧ Hid (Fr [] W3 wr)) (fun i _ => t.ops.length + 1 - (intOf i).toNat)
  case atStart => exact ⟨0, Nat.zero_le _, rfl, F0⟩
  case round =>
    obtain ⟨p, hp, rfl, F⟩ := hrel
    have HXr : Hid (wr.heap[bt]? = some (.cells t.arr 33 (0, 0)) ∧ TrOk wr B t ∧ Tab wr ∧ Fr [] w wr) := ⟨(F.out.block _ (at_lt HX3.out.1) (by simp)).trans HX3.out.1, HX3.out.2.1.fr0 F.out, HX3.out.2.2.1.fr0 F.out, HX3.out.2.2.2.trans F.out⟩
    have c13 : wr.cell? ⟨bt, 13, none⟩ = some (.slice t.oa t.ops.length t.oc) := at_cells HXr.out.1 13 t.at_ops
    by_cases hlt : p ≤ t.ops.length
    · have hpI : (p : Int) ≤ t.ops.length := by omega
      have CU := uses_ok HXr.out.2.2.1 HXr.out.2.1 HA.out.1 HOK.out HA.out.2 hlt
      have HU : Hid (∀ x ∈ usesP t.abs p, 0 ≤ x ∧ x < t.ins.length + p ∧ ((t.ins.length : Int) ≤ x → (rowP (t.abs.opN (x - t.ins.length).toNat)).mkv = true)) := fun x hx => uses_made HA.out.1 (by rw [(abs_lens t).1]; exact hlt) hx
      generalize usesP t.abs p = L at *
      have A1 : Hid True := trivial
      go_upto_region 12 with (first
        | (have hA1 := A1; clear A1 hA1; refine wpList_ld33 rfl (.tmp 1) rfl bt rfl t.arr t.arr_size HXr.out.1 ?_)
        | (go_at_call 18; refine CU.mono ?_; rintro e W4 ⟨ua, uc, rfl, hcell, hLn, f4⟩))
      have HX4 : Hid (W4.heap[bt]? = some (.cells t.arr 33 (0, 0)) ∧ TrOk W4 B t ∧ Tab W4 ∧ Fr [] W3 W4 ∧ Fr [] w W4) := ⟨(f4.block _ (at_lt HXr.out.1) (by simp)).trans HXr.out.1, HXr.out.2.1.fr0 f4, HXr.out.2.2.1.fr0 f4, F.out.trans f4, HXr.out.2.2.2.trans f4⟩
      have HC : Hid (∀ j x, L[j]? = some x → ∃ b, ua = some ⟨b, 0, none⟩ ∧ W4.cell? ⟨b, j, none⟩ = some (.int .i64 x)) := hcell
      have nL : (L.length : Int) ≤ 4000000000 := by omega
      have F4 : Hid (Fr [] W4 W4) := Fr.refl _ _
      clear hcell hLn f4 HXr F c13 CU
      go_loopw [31] (fun i wr2 => ∃ q : Nat, q ≤ L.length ∧ i = .int .i64 q ∧ Hid (Fr [] W4 wr2)) (fun i _ => L.length - (intOf i).toNat)
      case atStart => exact ⟨0, Nat.zero_le _, rfl, F4⟩
      case round =>
        obtain ⟨q, hq, rfl, G⟩ := hrel
        have HX5 : Hid (wr.heap[bt]? = some (.cells t.arr 33 (0, 0)) ∧ TrOk wr B t ∧ Tab wr ∧ Fr [] W3 wr ∧ Fr [] w wr) := ⟨(G.out.block _ (at_lt HX4.out.1) (by simp)).trans HX4.out.1, HX4.out.2.1.fr0 G.out, HX4.out.2.2.1.fr0 G.out, HX4.out.2.2.2.1.trans G.out, HX4.out.2.2.2.2.trans G.out⟩
        by_cases hql : q < L.length
        · have hqI : (q : Int) < L.length := by omega
          obtain ⟨x, hx⟩ : ∃ x, L[q]? = some x := ⟨_, List.getElem?_eq_getElem hql⟩
          obtain ⟨ub, hub, hcx⟩ := HC.out q x hx
          have cx := G.out.cell1 hcx (by simp)
          obtain ⟨x0, x1, x2⟩ := HU.out x (List.mem_of_getElem? hx)
          have c12 : wr.cell? ⟨bt, 12, none⟩ = some (.slice t.ia t.ins.length t.ic) := at_cells HX5.out.1 12 t.at_ins
          have c13 : wr.cell? ⟨bt, 13, none⟩ = some (.slice t.oa t.ops.length t.oc) := at_cells HX5.out.1 13 t.at_ops
          have d0 : ¬ x < 0 := by omega
          have d1 : ¬ x ≥ (t.ins.length : Int) + p := by omega
          rw [hub]
          clear hx hcx
          by_cases hxi : (t.ins.length : Int) ≤ x
          · obtain ⟨k, hk⟩ : ∃ k : Nat, x = t.ins.length + k := ⟨(x - t.ins.length).toNat, by omega⟩
            subst hk
            have hkl : k < t.ops.length := by omega
            obtain ⟨e, he⟩ : ∃ e, t.ops[k]? = some e := ⟨_, List.getElem?_eq_getElem hkl⟩
            obtain ⟨b5, o5, e1, r1, _⟩ := HX5.out.2.1.ops.elem (f := El.cl) (fun x hx => El.cl_len (HX5.out.2.1.opl x hx)) (by omega) he
            have ok1 := HX5.out.2.1.opl e (List.mem_of_getElem? he)
            obtain ⟨P, Q, ea, ec, el⟩ := e
            obtain ⟨o, rfl⟩ := len1 ok1.hp
            have hop : t.abs.opN k = o := by simp [AT.opN, Tr.abs, he, El.abs]
            have hmk := x2 hxi
            rw [show ((t.ins.length : Int) + k - t.ins.length).toNat = k by omega, hop] at hmk
            have M12 := makes12 HX5.out.2.2.1 o
            rw [hmk] at M12
            have co : wr.cell? ⟨b5, o5 + k * 5, none⟩ = some (.int .i64 o) := r1 0 _ rfl
            rw [e1] at c13
            have hkI : (k : Int) < t.ops.length := by omega
            have hsub : (t.ins.length : Int) + k - t.ins.length = k := by omega
            clear x0 x1 x2 he e1 r1 ok1 hop hmk hxi
            go_upto_region 16 with (go_at_call 12; refine M12.mono ?_; rintro e W5 ⟨rfl, f5⟩)
            have H6 : Hid (Fr [] W4 W5) := G.out.trans f5
            clear f5 M12 co hsub
            go_wp2
            go_roundw
            case rel => exact ⟨q + 1, hql, by go_num, H6⟩
            case measure => simp [intOf]; omega
          · have hxn : ¬ x ≥ (t.ins.length : Int) := by omega
            clear x0 x1 x2 hxi
            go_upto_region 16 with fail
            have H6 : Hid (Fr [] W4 wr) := G.out
            go_wp2
            go_roundw
            case rel => exact ⟨q + 1, hql, by go_num, H6⟩
            case measure => simp [intOf]; omega
        · obtain rfl : q = L.length := by omega
          have H7 : Hid (Fr [] W3 wr) := HX5.out.2.2.2.1
          go_wp2
          go_roundw
          case rel => exact ⟨p + 1, by omega, by go_num, H7⟩
          case measure => simp [intOf]; omega
    · obtain rfl : p = t.ops.length + 1 := by omega
      go_wp2
      go_ret
      exact ⟨rfl, HXr.out.2.2.2⟩
theorem small_of {t : Tr} (h : costT t ≤ 1048576) : Small t := by
  unfold costT at h
  have h1 := costE_len t.ops
  have h2 := costE_len t.links
  have h3 := costE_len t.virts
  exact ⟨by omega, by omega, by omega, by omega, by omega, fun e he => by have := costE_mem he; omega⟩
end Go.Proofs.YtkogfgbgmifcnaaDoor
