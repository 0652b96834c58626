/-
  Copies of traces: the operations' sources; condition: the trace lies as told.
-/
import Derived.Test.YtnhjplfdfbbihaaCaH
namespace Go.Proofs.Ytnhjplfdfbbihaa
open Go.RowKit
set_option linter.unusedVariables false
set_option linter.unusedSimpArgs false


set_option maxRecDepth 100000 in
set_option maxHeartbeats 8000000 in
theorem loop31a {w W : World} {B : Nat} {t : Tr} (HK : Hid (Wk w W t)) (HT : Hid (TrOk W B t)) (HB : Hid (B ≤ w.heap.size)) (ho2 : W.ownsRow w.heap.size 55 5 (.slice t.oa t.ops.length t.oc) t.ops.length (flatE t.ops))
    {Q : Exit → Act → World → Prop} {u0 u3 u4 u5 u6 u7 u8 u9 u10 u11 u12 u13 u14 u15 u18 u19 u20 u21 u22 u23 u24 u25 u26 u27 u28 u29 u30 u31 u32 u33 u34 u35 u36 u37 u38 u39 u40 u41 u42 u43 u44 u45 u46 u47 u48 u49 u50 u51 u52 u53 u54 u55 u56 u57 u58 u59 u60 u61 u62 u63 u64 u65 u66 u67 u68 u69 u70 u71 u72 u73 u74 u75 u76 u77 u78 u79 u80 u81 u82 u83 : Value}
    (h : ∀ t' W', Wk w W' t' → TrOk W' B t' → t'.abs = t.abs → ∀ n3 n18 n19 n20 n21 n22 n23 n24 n25 n26 n27 n28 n29 n30 n31 n32, Q .normal { tmps := #[u0, .pointer (some ⟨w.heap.size, 0, none⟩), .pointer (some ⟨w.heap.size + 1, 0, none⟩), n3, u4, u5, u6, u7, u8, u9, u10, u11, u12, u13, u14, u15, .int .i64 (t.ops.length : Nat), .int .i64 (t.ops.length : Nat), n18, n19, n20, n21, n22, n23, n24, n25, n26, n27, n28, n29, n30, n31, n32, u33, u34, u35, u36, u37, u38, u39, u40, u41, u42, u43, u44, u45, u46, u47, u48, u49, u50, u51, u52, u53, u54, u55, u56, u57, u58, u59, u60, u61, u62, u63, u64, u65, u66, u67, u68, u69, u70, u71, u72, u73, u74, u75, u76, u77, u78, u79, u80, u81, u82, u83], defers := [] } W') :
    (sub Try.f31 [1, 1, 1, 0, 1, 0]).wp Try.prog (Exit.inBlock 0 Q) { tmps := #[u0, .pointer (some ⟨w.heap.size, 0, none⟩), .pointer (some ⟨w.heap.size + 1, 0, none⟩), u3, u4, u5, u6, u7, u8, u9, u10, u11, u12, u13, u14, u15, .int .i64 (t.ops.length : Nat), .int .i64 0, u18, u19, u20, u21, u22, u23, u24, u25, u26, u27, u28, u29, u30, u31, u32, u33, u34, u35, u36, u37, u38, u39, u40, u41, u42, u43, u44, u45, u46, u47, u48, u49, u50, u51, u52, u53, u54, u55, u56, u57, u58, u59, u60, u61, u62, u63, u64, u65, u66, u67, u68, u69, u70, u71, u72, u73, u74, u75, u76, u77, u78, u79, u80, u81, u82, u83], defers := [] } W := by
  have HI0 : Hid (Cp w W B 55 1 3 (.slice t.oa t.ops.length t.oc) t.ops 0 []) := Cp.start ho2 HT.out.opl HK.out.fr
  have hnI : (t.ops.length : Int) ≤ 140737488355328 := by have := HT.out.ops.fit; omega
  clear ho2
  dsimp only [sub, nav, kid, Try.f31, Option.getD, if_true, if_false]
  go_wp2
  go_loopw [17] (fun i wr => ∃ (p : Nat) (C : List El), p ≤ t.ops.length ∧ i = .int .i64 p ∧ Hid (Cp w wr B 55 1 3 (.slice t.oa t.ops.length t.oc) t.ops p C ∧ Wk w wr t ∧ TrOk wr B { t with ops := C ++ t.ops.drop p })) (fun i _ => t.ops.length - (intOf i).toNat)
  case atStart => exact ⟨0, [], Nat.zero_le _, rfl, HI0.out, HK.out, HT.out⟩
  case round =>
    obtain ⟨p, C, hp, rfl, I⟩ := hrel
    by_cases hlt : p < t.ops.length
    · have hpI : (p : Int) < t.ops.length := by omega
      have hx : t.ops[p]? = some (t.ops[p]) := List.getElem?_eq_getElem _
      have hxm := List.mem_of_getElem? hx
      generalize t.ops[p] = x at hx hxm
      have hrow := I.out.1.row
      have hxo := I.out.1.ds x hxm
      have hall : ∀ y ∈ C ++ t.ops.drop p, y.cl.length = 5 := by
        intro y hy
        rcases List.mem_append.1 hy with h | h
        · exact (El.cl_len (I.out.1.ls y h))
        · exact (El.cl_len (I.out.1.ds y (List.mem_of_mem_drop h)))
      have hx2 : (C ++ t.ops.drop p)[p]? = some x := by rw [List.getElem?_append_right (by rw [I.out.1.len]; omega), I.out.1.len]; simpa using hx
      obtain ⟨g, gc, e1, k1, hz, hgl⟩ := own_cells hrow (j := p * 5 + 1) (x := .slice x.a x.l.length x.c) (by rw [show p * 5 + 1 = p * 5 + 1 from rfl]; exact (flat_at (f := El.cl) hall hx2 1 (by omega)).trans (El.at_cl hxo.hp))
      have HGE : Hid (Value.slice t.oa t.ops.length t.oc = Value.slice (some ⟨g, 0, none⟩) t.ops.length gc) := e1
      have hgT : g ≠ w.heap.size := fun e => by
        have := own_ne hrow I.out.2.1.b1 (by decide)
        rw [e1, ← e] at this
        exact this rfl
      have hgR : g ≠ w.heap.size + 1 := fun e => by
        have := own_ne hrow I.out.2.1.b2 (by decide)
        rw [e1, ← e] at this
        exact this rfl
      have S3 : wr.cell? ⟨w.heap.size, 13, none⟩ = some (.slice (some ⟨g, 0, none⟩) t.ops.length gc) := by rw [← e1]; exact at_cells I.out.2.1.b1 13 t.at_ops
      have C46 : ∀ w', Fr [] wr w' → Calls Try.prog 46 #[.slice x.a x.l.length x.c] w' (fun e w5 => ∃ v, e = .returned v ∧ Hid (w5.ownsRow w'.heap.size 109 4 v x.l.length (flatS x.l)) ∧ Fr [] wr w5) := fun w' f' => (clone46 (hxo.sl.fr f' (Away.nil _ _)) (flatS_one _)).mono fun e w5 ⟨v, h1, h2, h3⟩ => ⟨v, h1, h2, f'.trans h3⟩
      have m3 : ∀ w', Fr [g] wr w' → w'.cell? ⟨w.heap.size, 13, none⟩ = some (.slice (some ⟨g, 0, none⟩) t.ops.length gc) := fun w' f' => f'.cell1 S3 (by simpa using Ne.symm hgT)
      have K1 : wr.cell? ⟨g, p * 5 + 1, none⟩ = some (.slice x.a x.l.length x.c) := k1
      have ZZ : ∀ w', Fr [] wr w' → ∀ i, w'.frozen? ⟨g, i, none⟩ = false := fun w' f' i => by
        have := hz i
        simp only [World.frozen?] at this ⊢
        rw [f'.block _ hgl (by simp)]
        exact this
      have HGL : Hid (g < wr.heap.size ∧ g ≠ w.heap.size ∧ g ≠ w.heap.size + 1) := ⟨hgl, hgT, hgR⟩
      have HX2 : Hid (t.ops[p]? = some x) := hx
      clear hxo hall hx2 hrow hgl hgT hgR hz hx hxm S3 e1 k1
      go_upto_region 6 with fail
      refine reg_in (fun w' => Fr [g] wr w') ?_
      have hF : Fr [] wr wr.drew := (Fr.refl _ _).drew
      have hS : Fr [g] wr wr.drew := hF.sub (by simp)
      generalize wr.drew = Y at *
      refine tk 0 (some 20) (.pointer (some ⟨w.heap.size, 13, none⟩)) rfl rfl (Or.inl ⟨rfl, fun wq hSq => by first | rfl | go_simp⟩) (by decide +kernel) hS ?_
      simp only [Act.put, List.setIfInBounds_toArray, List.set_cons_zero, List.set_cons_succ]
      refine tk 1 (some 21) (.slice (some ⟨g, 0, none⟩) t.ops.length gc) rfl rfl (Or.inl ⟨rfl, fun wq hSq => by (have q := m3 wq hSq; go_simp)⟩) (by decide +kernel) hS ?_
      simp only [Act.put, List.setIfInBounds_toArray, List.set_cons_zero, List.set_cons_succ]
      refine tk 2 (some 22) (.int .i64 (p : Int)) rfl rfl (Or.inl ⟨rfl, fun wq hSq => by first | rfl | go_simp⟩) (by decide +kernel) hS ?_
      simp only [Act.put, List.setIfInBounds_toArray, List.set_cons_zero, List.set_cons_succ]
      refine tk 3 (some 23) (.pointer (some ⟨w.heap.size, 13, none⟩)) rfl rfl (Or.inl ⟨rfl, fun wq hSq => by first | rfl | go_simp⟩) (by decide +kernel) hS ?_
      simp only [Act.put, List.setIfInBounds_toArray, List.set_cons_zero, List.set_cons_succ]
      refine tk 4 (some 24) (.slice (some ⟨g, 0, none⟩) t.ops.length gc) rfl rfl (Or.inl ⟨rfl, fun wq hSq => by (have q := m3 wq hSq; go_simp)⟩) (by decide +kernel) hS ?_
      simp only [Act.put, List.setIfInBounds_toArray, List.set_cons_zero, List.set_cons_succ]
      refine tk 5 (some 25) (.int .i64 (p : Int)) rfl rfl (Or.inl ⟨rfl, fun wq hSq => by first | rfl | go_simp⟩) (by decide +kernel) hS ?_
      simp only [Act.put, List.setIfInBounds_toArray, List.set_cons_zero, List.set_cons_succ]
      refine tk 6 (some 26) (.pointer (some ⟨g, p * 5, none⟩)) rfl rfl (Or.inl ⟨rfl, fun wq hSq => by go_simp⟩) (by decide +kernel) hS ?_
      simp only [Act.put, List.setIfInBounds_toArray, List.set_cons_zero, List.set_cons_succ]
      refine tk 7 (some 27) (.pointer (some ⟨g, p * 5 + 1, none⟩)) rfl rfl (Or.inl ⟨rfl, fun wq hSq => by go_simp⟩) (by decide +kernel) hS ?_
      simp only [Act.put, List.setIfInBounds_toArray, List.set_cons_zero, List.set_cons_succ]
      refine wpAnyH_ready (rs := [8]) (by decide +kernel) (by simp) ?_
      refine AllReadyH.cons rfl (fun K hK => ?_) AllReadyH.nil
      have q := hF.cell1 K1 (by simp)
      go_simp
      clear q
      refine hK.out _ _ hS (fun _ => ?_)
      clear hK K
      try simp only [Act.put, List.setIfInBounds_toArray, List.set_cons_zero, List.set_cons_succ]
      refine wpAnyH_ready (rs := [9]) (by decide +kernel) (by simp) ?_
      refine AllReadyH.cons rfl (fun K hK => ?_) AllReadyH.nil
      go_simp
      refine (C46 _ hF).mono ?_
      rintro e w5 ⟨v5, rfl, hoy, F5⟩
      obtain ⟨ya, yc, rfl, _⟩ := own_slice hoy.out
      have hS : Fr [g] wr w5 := F5.sub (by simp)
      clear hF
      refine hK.out _ _ hS (fun _ => ?_)
      clear hK K
      try simp only [Act.put, List.setIfInBounds_toArray, List.set_cons_zero, List.set_cons_succ]
      refine tk 10 (some 30) (.pointer (some ⟨g, p * 5, none⟩)) rfl rfl (Or.inl ⟨rfl, fun wq hSq => by go_simp⟩) (by decide +kernel) hS ?_
      simp only [Act.put, List.setIfInBounds_toArray, List.set_cons_zero, List.set_cons_succ]
      refine tk 11 (some 31) (.pointer (some ⟨g, p * 5 + 1, none⟩)) rfl rfl (Or.inl ⟨rfl, fun wq hSq => by go_simp⟩) (by decide +kernel) hS ?_
      simp only [Act.put, List.setIfInBounds_toArray, List.set_cons_zero, List.set_cons_succ]
      refine wpAnyH_ready (rs := [12]) (by decide +kernel) (by simp) ?_
      refine AllReadyH.cons rfl (fun K hK => ?_) AllReadyH.nil
      have q := F5.cell1 K1 (by simp)
      have q2 := ZZ _ F5
      go_simp
      clear q q2
      have hS := hS.setCell (p := ⟨g, p * 5 + 1, none⟩) (.inl (by simp)) (.slice ya x.l.length yc)
      refine hK.out _ _ hS (fun _ => ?_)
      clear hK K
      try simp only [Act.put, List.setIfInBounds_toArray, List.set_cons_zero, List.set_cons_succ]
      refine wpAnyH_done (by decide +kernel) ?_ _
      refine plain_end ?_

      have HF5 : Hid (Fr [] wr w5) := F5
      clear C46 m3 K1 ZZ hS F5
      go_wp2
      go_roundw
      case rel =>
        refine ⟨p + 1, C ++ [{ x with a := ya, c := yc }], hlt, by go_num, ?_⟩
        obtain ⟨I1, I2, I3⟩ := I.out
        have G1 := HGL.out
        have T5 := I3.fr0 HF5.out
        rw [HGE.out] at I1
        have jn := I1.next (by decide) (by decide) HB.out HX2.out HF5.out hoy.out
        obtain ⟨hgw, cur, hcur⟩ := own_block (own_fr I1.row HF5.out (by simp))
        have hBg : B ≤ g := Nat.le_trans HB.out hgw
        have hfit := I3.ops.fit
        have hlen : (C ++ t.ops.drop p).length = t.ops.length := by simp [I1.len]; omega
        have hlen2 : ((C ++ [({ x with a := ya, c := yc } : El)]) ++ t.ops.drop (p + 1)).length = t.ops.length := by simp [I1.len]; omega
        have hoa : t.oa = some ⟨g, 0, none⟩ := by have := HGE.out; injection this
        have hoc : t.oc = gc := by have := HGE.out; injection this
        have hrow2 := jn.row
        rw [← hlen2] at hrow2
        unfold Hid
        rw [HGE.out]
        refine ⟨jn, (I2.step HF5.out).oth G1.2.1 G1.2.2 hgw _ _, ⟨T5.ins.oth hcur (by decide) hBg _ _, (by have q := SL.own (B := B) hrow2 (by decide) (y := 56) (by rw [hlen2, ← hlen]; exact hfit); rw [← hoa, ← hoc] at q; exact q), ?_, T5.links.oth hcur (by decide) hBg _ _, fun e he => (T5.linkl e he).oth hcur (by decide) hBg _ _, T5.virts.oth hcur (by decide) hBg _ _, fun e he => (T5.virtl e he).oth hcur (by decide) hBg _ _, T5.back.oth hcur (by decide) hBg _ _⟩⟩
        intro e he
        rcases List.mem_append.1 he with he | he
        · exact jn.ls e he
        · exact jn.ds e (List.mem_of_mem_drop he)
      case measure => simp [intOf]; omega
    · obtain rfl : p = t.ops.length := by omega
      obtain ⟨I1, I2, I3⟩ := I.out
      have hC : C.length = t.ops.length := I1.len
      have K2 : Wk w wr { t with ops := C } := ⟨by have := I2.b1; unfold Tr.arr Tr.cl Tr.tl at this ⊢; simp only [hC]; exact this, I2.b2, I2.fr⟩
      have T2 : TrOk wr B { t with ops := C } := by simpa using I3
      have A2 : ({ t with ops := C } : Tr).abs = t.abs := by
        have h1 := I1.same
        rw [List.take_of_length_le (Nat.le_refl _)] at h1
        unfold Tr.abs
        simp only [h1]
      have HH : Hid (Wk w wr { t with ops := C } ∧ TrOk wr B { t with ops := C } ∧ ({ t with ops := C } : Tr).abs = t.abs) := ⟨K2, T2, A2⟩
      clear I1 I2 I3 I hp HK HT HI0 K2 T2 A2
      go_wp2
      exact h _ wr HH.out.1 HH.out.2.1 HH.out.2.2 _ _ _ _ _ _ _ _ _ _ _ _ _ _ _ _
end Go.Proofs.Ytnhjplfdfbbihaa
