/-
  Where a copy's lists lie: at or past a bound; condition: none.
-/
import Derived.Test.YtnhjplfdfbbihaaCaH
namespace Go.Proofs.Ytnhjplfdfbbihaa
open Go.RowKit
set_option linter.unusedVariables false
set_option linter.unusedSimpArgs false
/-- An address lies at or past a block. -/
def AFr (L : Nat) (a : Option Addr) : Prop := ∀ b o s, a = some ⟨b, o, s⟩ → L ≤ b
theorem AFr.low {L M : Nat} {a : Option Addr} (h : AFr M a) (hl : L ≤ M) : AFr L a := fun b o s e => Nat.le_trans hl (h b o s e)
theorem AFr.own {w : World} {B n m c : Nat} {e : TypeId} {a : Option Addr} {xs : List Value} (h : w.ownsRow B e m (.slice a n c) n xs) : AFr B a := fun b o s e1 => by
  subst e1
  rcases h.2 with ⟨e1, _⟩ | ⟨g, cap, cur, e1, hB, _⟩
  · cases e1
  · cases e1
    exact hB
/-- The first k of a trace's lists lie at or past a block. -/
structure FrL (k : Nat) (L : Nat) (t : Tr) : Prop where
  f1 : 1 ≤ k → AFr L t.ia
  f2 : 2 ≤ k → AFr L t.oa
  f3 : 3 ≤ k → ∀ e ∈ t.ops, AFr L e.a
  f4 : 4 ≤ k → AFr L t.la
  f5 : 5 ≤ k → ∀ e ∈ t.links, AFr L e.a
  f6 : 6 ≤ k → AFr L t.va
  f7 : 7 ≤ k → ∀ e ∈ t.virts, AFr L e.a
  f8 : 8 ≤ k → AFr L t.ba
theorem FrL.zero (L : Nat) (t : Tr) : FrL 0 L t := ⟨fun h => absurd h (by decide), fun h => absurd h (by decide), fun h => absurd h (by decide), fun h => absurd h (by decide), fun h => absurd h (by decide), fun h => absurd h (by decide), fun h => absurd h (by decide), fun h => absurd h (by decide)⟩
theorem FrL.low {L M k : Nat} {t : Tr} (h : FrL k M t) (hl : L ≤ M) : FrL k L t := ⟨fun q => (h.f1 q).low hl, fun q => (h.f2 q).low hl, fun q e he => (h.f3 q e he).low hl, fun q => (h.f4 q).low hl, fun q e he => (h.f5 q e he).low hl, fun q => (h.f6 q).low hl, fun q e he => (h.f7 q e he).low hl, fun q => (h.f8 q).low hl⟩
theorem FrL.set_ins {L : Nat} {t : Tr} (h : FrL 0 L t) {v : Option Addr} {n : Nat} (hv : AFr L v) : FrL (0 + 1) L { t with ia := v, ic := n } := ⟨fun _ => hv, fun q => absurd q (by decide), fun q => absurd q (by decide), fun q => absurd q (by decide), fun q => absurd q (by decide), fun q => absurd q (by decide), fun q => absurd q (by decide), fun q => absurd q (by decide)⟩
theorem FrL.set_ops {L : Nat} {t : Tr} (h : FrL 1 L t) {v : Option Addr} {n : Nat} (hv : AFr L v) : FrL (1 + 1) L { t with oa := v, oc := n } := ⟨fun _ => h.f1 (by decide), fun _ => hv, fun q => absurd q (by decide), fun q => absurd q (by decide), fun q => absurd q (by decide), fun q => absurd q (by decide), fun q => absurd q (by decide), fun q => absurd q (by decide)⟩
theorem FrL.set_links {L : Nat} {t : Tr} (h : FrL 3 L t) {v : Option Addr} {n : Nat} (hv : AFr L v) : FrL (3 + 1) L { t with la := v, lc := n } := ⟨fun _ => h.f1 (by decide), fun _ => h.f2 (by decide), fun _ => h.f3 (by decide), fun _ => hv, fun q => absurd q (by decide), fun q => absurd q (by decide), fun q => absurd q (by decide), fun q => absurd q (by decide)⟩
theorem FrL.set_virts {L : Nat} {t : Tr} (h : FrL 5 L t) {v : Option Addr} {n : Nat} (hv : AFr L v) : FrL (5 + 1) L { t with va := v, vc := n } := ⟨fun _ => h.f1 (by decide), fun _ => h.f2 (by decide), fun _ => h.f3 (by decide), fun _ => h.f4 (by decide), fun _ => h.f5 (by decide), fun _ => hv, fun q => absurd q (by decide), fun q => absurd q (by decide)⟩
theorem FrL.set_back {L : Nat} {t : Tr} (h : FrL 7 L t) {v : Option Addr} {n : Nat} (hv : AFr L v) : FrL (7 + 1) L { t with ba := v, bc := n } := ⟨fun _ => h.f1 (by decide), fun _ => h.f2 (by decide), fun _ => h.f3 (by decide), fun _ => h.f4 (by decide), fun _ => h.f5 (by decide), fun _ => h.f6 (by decide), fun _ => h.f7 (by decide), fun _ => hv⟩
theorem FrL.loop_ops {L : Nat} {t t' : Tr} (h : FrL 2 L t) (hv : ∃ C, t' = { t with ops := C } ∧ ∀ e ∈ C, AFr L e.a) : FrL (2 + 1) L t' := by
  obtain ⟨C, rfl, hC⟩ := hv
  exact ⟨fun _ => h.f1 (by decide), fun _ => h.f2 (by decide), fun _ => hC, fun q => absurd q (by decide), fun q => absurd q (by decide), fun q => absurd q (by decide), fun q => absurd q (by decide), fun q => absurd q (by decide)⟩
theorem FrL.loop_links {L : Nat} {t t' : Tr} (h : FrL 4 L t) (hv : ∃ C, t' = { t with links := C } ∧ ∀ e ∈ C, AFr L e.a) : FrL (4 + 1) L t' := by
  obtain ⟨C, rfl, hC⟩ := hv
  exact ⟨fun _ => h.f1 (by decide), fun _ => h.f2 (by decide), fun _ => h.f3 (by decide), fun _ => h.f4 (by decide), fun _ => hC, fun q => absurd q (by decide), fun q => absurd q (by decide), fun q => absurd q (by decide)⟩
theorem FrL.loop_virts {L : Nat} {t t' : Tr} (h : FrL 6 L t) (hv : ∃ C, t' = { t with virts := C } ∧ ∀ e ∈ C, AFr L e.a) : FrL (6 + 1) L t' := by
  obtain ⟨C, rfl, hC⟩ := hv
  exact ⟨fun _ => h.f1 (by decide), fun _ => h.f2 (by decide), fun _ => h.f3 (by decide), fun _ => h.f4 (by decide), fun _ => h.f5 (by decide), fun _ => h.f6 (by decide), fun _ => hC, fun q => absurd q (by decide)⟩
end Go.Proofs.Ytnhjplfdfbbihaa
namespace Go.Proofs.Ytnhjplfdfbbihaa
open Go.RowKit
set_option linter.unusedVariables false
set_option linter.unusedSimpArgs false


set_option maxRecDepth 100000 in
set_option maxHeartbeats 8000000 in
theorem loopF31a {w W : World} {B : Nat} {t : Tr} (HK : Hid (Wk w W t)) (HT : Hid (TrOk W B t)) (HB : Hid (B ≤ w.heap.size)) (ho2 : W.ownsRow w.heap.size 55 5 (.slice t.oa t.ops.length t.oc) t.ops.length (flatE t.ops))
    {Q : Exit → Act → World → Prop} {u0 u3 u4 u5 u6 u7 u8 u9 u10 u11 u12 u13 u14 u15 u18 u19 u20 u21 u22 u23 u24 u25 u26 u27 u28 u29 u30 u31 u32 u33 u34 u35 u36 u37 u38 u39 u40 u41 u42 u43 u44 u45 u46 u47 u48 u49 u50 u51 u52 u53 u54 u55 u56 u57 u58 u59 u60 u61 u62 u63 u64 u65 u66 u67 u68 u69 u70 u71 u72 u73 u74 u75 u76 u77 u78 u79 u80 u81 u82 u83 : Value}
    (h : ∀ t' W', Wk w W' t' → TrOk W' B t' → t'.abs = t.abs → (∃ C, t' = { t with ops := C } ∧ ∀ e ∈ C, AFr w.heap.size e.a) → ∀ n3 n18 n19 n20 n21 n22 n23 n24 n25 n26 n27 n28 n29 n30 n31 n32, Q .normal { tmps := #[u0, .pointer (some ⟨w.heap.size, 0, none⟩), .pointer (some ⟨w.heap.size + 1, 0, none⟩), n3, u4, u5, u6, u7, u8, u9, u10, u11, u12, u13, u14, u15, .int .i64 (t.ops.length : Nat), .int .i64 (t.ops.length : Nat), n18, n19, n20, n21, n22, n23, n24, n25, n26, n27, n28, n29, n30, n31, n32, u33, u34, u35, u36, u37, u38, u39, u40, u41, u42, u43, u44, u45, u46, u47, u48, u49, u50, u51, u52, u53, u54, u55, u56, u57, u58, u59, u60, u61, u62, u63, u64, u65, u66, u67, u68, u69, u70, u71, u72, u73, u74, u75, u76, u77, u78, u79, u80, u81, u82, u83], defers := [] } W') :
    (sub Try.f31 [1, 1, 1, 0, 1, 0]).wp Try.prog (Exit.inBlock 0 Q) { tmps := #[u0, .pointer (some ⟨w.heap.size, 0, none⟩), .pointer (some ⟨w.heap.size + 1, 0, none⟩), u3, u4, u5, u6, u7, u8, u9, u10, u11, u12, u13, u14, u15, .int .i64 (t.ops.length : Nat), .int .i64 0, u18, u19, u20, u21, u22, u23, u24, u25, u26, u27, u28, u29, u30, u31, u32, u33, u34, u35, u36, u37, u38, u39, u40, u41, u42, u43, u44, u45, u46, u47, u48, u49, u50, u51, u52, u53, u54, u55, u56, u57, u58, u59, u60, u61, u62, u63, u64, u65, u66, u67, u68, u69, u70, u71, u72, u73, u74, u75, u76, u77, u78, u79, u80, u81, u82, u83], defers := [] } W := by
  have HI0 : Hid (Cp w W B 55 1 3 (.slice t.oa t.ops.length t.oc) t.ops 0 []) := Cp.start ho2 HT.out.opl HK.out.fr
  have hnI : (t.ops.length : Int) ≤ 140737488355328 := by have := HT.out.ops.fit; omega
  clear ho2
  dsimp only [sub, nav, kid, Try.f31, Option.getD, if_true, if_false]
  go_wp2
  go_loopw [17] (fun i wr => ∃ (p : Nat) (C : List El), p ≤ t.ops.length ∧ i = .int .i64 p ∧ Hid (Cp w wr B 55 1 3 (.slice t.oa t.ops.length t.oc) t.ops p C ∧ Wk w wr t ∧ TrOk wr B { t with ops := C ++ t.ops.drop p } ∧ ∀ e ∈ C, AFr w.heap.size e.a)) (fun i _ => t.ops.length - (intOf i).toNat)
  case atStart => exact ⟨0, [], Nat.zero_le _, rfl, HI0.out, HK.out, HT.out, by simp⟩
  case round =>
    obtain ⟨p, C, hp, rfl, I⟩ := hrel
    by_cases hlt : p < t.ops.length
    · have hpI : (p : Int) < t.ops.length := by omega
      have hx : t.ops[p]? = some (t.ops[p]) := List.getElem?_eq_getElem _
      have hxm := List.mem_of_getElem? hx
      generalize t.ops[p] = x at hx hxm
      have hrow := I.out.1.row
      have hxo := I.out.1.ds x hxm
      have hall : ∀ y ∈ C ++ t.ops.drop p, y.cl.length = 5 := by
        intro y hy
        rcases List.mem_append.1 hy with h | h
        · exact (El.cl_len (I.out.1.ls y h))
        · exact (El.cl_len (I.out.1.ds y (List.mem_of_mem_drop h)))
      have hx2 : (C ++ t.ops.drop p)[p]? = some x := by rw [List.getElem?_append_right (by rw [I.out.1.len]; omega), I.out.1.len]; simpa using hx
      obtain ⟨g, gc, e1, k1, hz, hgl⟩ := own_cells hrow (j := p * 5 + 1) (x := .slice x.a x.l.length x.c) (by rw [show p * 5 + 1 = p * 5 + 1 from rfl]; exact (flat_at (f := El.cl) hall hx2 1 (by omega)).trans (El.at_cl hxo.hp))
      have HGE : Hid (Value.slice t.oa t.ops.length t.oc = Value.slice (some ⟨g, 0, none⟩) t.ops.length gc) := e1
      have hgT : g ≠ w.heap.size := fun e => by
        have := own_ne hrow I.out.2.1.b1 (by decide)
        rw [e1, ← e] at this
        exact this rfl
      have hgR : g ≠ w.heap.size + 1 := fun e => by
        have := own_ne hrow I.out.2.1.b2 (by decide)
        rw [e1, ← e] at this
        exact this rfl
      have S3 : wr.cell? ⟨w.heap.size, 13, none⟩ = some (.slice (some ⟨g, 0, none⟩) t.ops.length gc) := by rw [← e1]; exact at_cells I.out.2.1.b1 13 t.at_ops
      have C46 : ∀ w', Fr [] wr w' → Calls Try.prog 46 #[.slice x.a x.l.length x.c] w' (fun e w5 => ∃ v, e = .returned v ∧ Hid (w5.ownsRow w.heap.size 109 4 v x.l.length (flatS x.l)) ∧ Fr [] wr w5) := fun w' f' => (clone46 (hxo.sl.fr f' (Away.nil _ _)) (flatS_one _)).mono fun e w5 ⟨v, h1, h2, h3⟩ => ⟨v, h1, own_low h2 (Nat.le_trans I.out.2.1.fr.size f'.size), f'.trans h3⟩
      have m3 : ∀ w', Fr [g] wr w' → w'.cell? ⟨w.heap.size, 13, none⟩ = some (.slice (some ⟨g, 0, none⟩) t.ops.length gc) := fun w' f' => f'.cell1 S3 (by simpa using Ne.symm hgT)
      have K1 : wr.cell? ⟨g, p * 5 + 1, none⟩ = some (.slice x.a x.l.length x.c) := k1
      have ZZ : ∀ w', Fr [] wr w' → ∀ i, w'.frozen? ⟨g, i, none⟩ = false := fun w' f' i => by
        have := hz i
        simp only [World.frozen?] at this ⊢
        rw [f'.block _ hgl (by simp)]
        exact this
      have HGL : Hid (g < wr.heap.size ∧ g ≠ w.heap.size ∧ g ≠ w.heap.size + 1) := ⟨hgl, hgT, hgR⟩
      have HX2 : Hid (t.ops[p]? = some x) := hx
      clear hxo hall hx2 hrow hgl hgT hgR hz hx hxm S3 e1 k1
      go_upto_region 6 with fail
      refine reg_in (fun w' => Fr [g] wr w') ?_
      have hF : Fr [] wr wr.drew := (Fr.refl _ _).drew
      have hS : Fr [g] wr wr.drew := hF.sub (by simp)
      generalize wr.drew = Y at *
      refine tk 0 (some 20) (.pointer (some ⟨w.heap.size, 13, none⟩)) rfl rfl (Or.inl ⟨rfl, fun wq hSq => by first | rfl | go_simp⟩) (by decide +kernel) hS ?_
      simp only [Act.put, List.setIfInBounds_toArray, List.set_cons_zero, List.set_cons_succ]
      refine tk 1 (some 21) (.slice (some ⟨g, 0, none⟩) t.ops.length gc) rfl rfl (Or.inl ⟨rfl, fun wq hSq => by (have q := m3 wq hSq; go_simp)⟩) (by decide +kernel) hS ?_
      simp only [Act.put, List.setIfInBounds_toArray, List.set_cons_zero, List.set_cons_succ]
      refine tk 2 (some 22) (.int .i64 (p : Int)) rfl rfl (Or.inl ⟨rfl, fun wq hSq => by first | rfl | go_simp⟩) (by decide +kernel) hS ?_
      simp only [Act.put, List.setIfInBounds_toArray, List.set_cons_zero, List.set_cons_succ]
      refine tk 3 (some 23) (.pointer (some ⟨w.heap.size, 13, none⟩)) rfl rfl (Or.inl ⟨rfl, fun wq hSq => by first | rfl | go_simp⟩) (by decide +kernel) hS ?_
      simp only [Act.put, List.setIfInBounds_toArray, List.set_cons_zero, List.set_cons_succ]
      refine tk 4 (some 24) (.slice (some ⟨g, 0, none⟩) t.ops.length gc) rfl rfl (Or.inl ⟨rfl, fun wq hSq => by (have q := m3 wq hSq; go_simp)⟩) (by decide +kernel) hS ?_
      simp only [Act.put, List.setIfInBounds_toArray, List.set_cons_zero, List.set_cons_succ]
      refine tk 5 (some 25) (.int .i64 (p : Int)) rfl rfl (Or.inl ⟨rfl, fun wq hSq => by first | rfl | go_simp⟩) (by decide +kernel) hS ?_
      simp only [Act.put, List.setIfInBounds_toArray, List.set_cons_zero, List.set_cons_succ]
      refine tk 6 (some 26) (.pointer (some ⟨g, p * 5, none⟩)) rfl rfl (Or.inl ⟨rfl, fun wq hSq => by go_simp⟩) (by decide +kernel) hS ?_
      simp only [Act.put, List.setIfInBounds_toArray, List.set_cons_zero, List.set_cons_succ]
      refine tk 7 (some 27) (.pointer (some ⟨g, p * 5 + 1, none⟩)) rfl rfl (Or.inl ⟨rfl, fun wq hSq => by go_simp⟩) (by decide +kernel) hS ?_
      simp only [Act.put, List.setIfInBounds_toArray, List.set_cons_zero, List.set_cons_succ]
      refine wpAnyH_ready (rs := [8]) (by decide +kernel) (by simp) ?_
      refine AllReadyH.cons rfl (fun K hK => ?_) AllReadyH.nil
      have q := hF.cell1 K1 (by simp)
      go_simp
      clear q
      refine hK.out _ _ hS (fun _ => ?_)
      clear hK K
      try simp only [List.getElem_toArray, List.getElem_cons_succ, List.getElem_cons_zero, Act.put, List.setIfInBounds_toArray, List.set_cons_zero, List.set_cons_succ]
      refine wpAnyH_ready (rs := [9]) (by decide +kernel) (by simp) ?_
      refine AllReadyH.cons rfl (fun K hK => ?_) AllReadyH.nil
      go_simp
      refine (C46 _ hF).mono ?_
      rintro e w5 ⟨v5, rfl, hoy, F5⟩
      obtain ⟨ya, yc, rfl, _⟩ := own_slice hoy.out
      have hS : Fr [g] wr w5 := F5.sub (by simp)
      clear hF
      refine hK.out _ _ hS (fun _ => ?_)
      clear hK K
      try simp only [List.getElem_toArray, List.getElem_cons_succ, List.getElem_cons_zero, Act.put, List.setIfInBounds_toArray, List.set_cons_zero, List.set_cons_succ]
      refine tk 10 (some 30) (.pointer (some ⟨g, p * 5, none⟩)) rfl rfl (Or.inl ⟨rfl, fun wq hSq => by go_simp⟩) (by decide +kernel) hS ?_
      simp only [Act.put, List.setIfInBounds_toArray, List.set_cons_zero, List.set_cons_succ]
      refine tk 11 (some 31) (.pointer (some ⟨g, p * 5 + 1, none⟩)) rfl rfl (Or.inl ⟨rfl, fun wq hSq => by go_simp⟩) (by decide +kernel) hS ?_
      simp only [Act.put, List.setIfInBounds_toArray, List.set_cons_zero, List.set_cons_succ]
      refine wpAnyH_ready (rs := [12]) (by decide +kernel) (by simp) ?_
      refine AllReadyH.cons rfl (fun K hK => ?_) AllReadyH.nil
      have q := F5.cell1 K1 (by simp)
      have q2 := ZZ _ F5
      go_simp
      clear q q2
      have hS := hS.setCell (p := ⟨g, p * 5 + 1, none⟩) (.inl (by simp)) (.slice ya x.l.length yc)
      refine hK.out _ _ hS (fun _ => ?_)
      clear hK K
      try simp only [List.getElem_toArray, List.getElem_cons_succ, List.getElem_cons_zero, Act.put, List.setIfInBounds_toArray, List.set_cons_zero, List.set_cons_succ]
      refine wpAnyH_done (by decide +kernel) ?_ _
      refine plain_end ?_

      have HF5 : Hid (Fr [] wr w5) := F5
      clear C46 m3 K1 ZZ hS F5
      go_wp2
      go_roundw
      case rel =>
        refine ⟨p + 1, C ++ [{ x with a := ya, c := yc }], hlt, by go_num, ?_⟩
        obtain ⟨I1, I2, I3, I4⟩ := I.out
        have G1 := HGL.out
        have T5 := I3.fr0 HF5.out
        rw [HGE.out] at I1
        have jn := I1.next (by decide) (by decide) HB.out HX2.out HF5.out hoy.out
        obtain ⟨hgw, cur, hcur⟩ := own_block (own_fr I1.row HF5.out (by simp))
        have hBg : B ≤ g := Nat.le_trans HB.out hgw
        have hfit := I3.ops.fit
        have hlen : (C ++ t.ops.drop p).length = t.ops.length := by simp [I1.len]; omega
        have hlen2 : ((C ++ [({ x with a := ya, c := yc } : El)]) ++ t.ops.drop (p + 1)).length = t.ops.length := by simp [I1.len]; omega
        have hoa : t.oa = some ⟨g, 0, none⟩ := by have := HGE.out; injection this
        have hoc : t.oc = gc := by have := HGE.out; injection this
        have hrow2 := jn.row
        rw [← hlen2] at hrow2
        unfold Hid
        rw [HGE.out]
        refine ⟨jn, (I2.step HF5.out).oth G1.2.1 G1.2.2 hgw _ _, ⟨T5.ins.oth hcur (by decide) hBg _ _, (by have q := SL.own (B := B) hrow2 (by decide) (y := 56) (by rw [hlen2, ← hlen]; exact hfit); rw [← hoa, ← hoc] at q; exact q), ?_, T5.links.oth hcur (by decide) hBg _ _, fun e he => (T5.linkl e he).oth hcur (by decide) hBg _ _, T5.virts.oth hcur (by decide) hBg _ _, fun e he => (T5.virtl e he).oth hcur (by decide) hBg _ _, T5.back.oth hcur (by decide) hBg _ _⟩, ?_⟩
        · intro e he
          rcases List.mem_append.1 he with he | he
          · exact jn.ls e he
          · exact jn.ds e (List.mem_of_mem_drop he)
        · intro e he
          rcases List.mem_append.1 he with he | he
          · exact I4 e he
          · simp only [List.mem_singleton] at he
            rw [he]
            exact AFr.own hoy.out
      case measure => simp [intOf]; omega
    · obtain rfl : p = t.ops.length := by omega
      obtain ⟨I1, I2, I3, I4⟩ := I.out
      have hC : C.length = t.ops.length := I1.len
      have K2 : Wk w wr { t with ops := C } := ⟨by have := I2.b1; unfold Tr.arr Tr.cl Tr.tl at this ⊢; simp only [hC]; exact this, I2.b2, I2.fr⟩
      have T2 : TrOk wr B { t with ops := C } := by simpa using I3
      have A2 : ({ t with ops := C } : Tr).abs = t.abs := by
        have h1 := I1.same
        rw [List.take_of_length_le (Nat.le_refl _)] at h1
        unfold Tr.abs
        simp only [h1]
      have HH : Hid (Wk w wr { t with ops := C } ∧ TrOk wr B { t with ops := C } ∧ ({ t with ops := C } : Tr).abs = t.abs ∧ ∃ C', ({ t with ops := C } : Tr) = { t with ops := C' } ∧ ∀ e ∈ C', AFr w.heap.size e.a) := ⟨K2, T2, A2, C, rfl, I4⟩
      clear I1 I2 I3 I4 I hp HK HT HI0 K2 T2 A2
      go_wp2
      exact h _ wr HH.out.1 HH.out.2.1 HH.out.2.2.1 HH.out.2.2.2 _ _ _ _ _ _ _ _ _ _ _ _ _ _ _ _
end Go.Proofs.Ytnhjplfdfbbihaa
namespace Go.Proofs.Ytnhjplfdfbbihaa
open Go.RowKit
set_option linter.unusedVariables false
set_option linter.unusedSimpArgs false


set_option maxRecDepth 100000 in
set_option maxHeartbeats 8000000 in
theorem loopF31b {w W : World} {B : Nat} {t : Tr} (HK : Hid (Wk w W t)) (HT : Hid (TrOk W B t)) (HB : Hid (B ≤ w.heap.size)) (ho2 : W.ownsRow w.heap.size 77 5 (.slice t.la t.links.length t.lc) t.links.length (flatE t.links))
    {Q : Exit → Act → World → Prop} {u0 u3 u4 u5 u6 u7 u8 u9 u10 u11 u12 u13 u14 u15 u16 u17 u18 u19 u20 u21 u22 u23 u24 u25 u26 u27 u28 u29 u30 u31 u32 u33 u34 u35 u36 u37 u38 u41 u42 u43 u44 u45 u46 u47 u48 u49 u50 u51 u52 u53 u54 u55 u56 u57 u58 u59 u60 u61 u62 u63 u64 u65 u66 u67 u68 u69 u70 u71 u72 u73 u74 u75 u76 u77 u78 u79 u80 u81 u82 u83 : Value}
    (h : ∀ t' W', Wk w W' t' → TrOk W' B t' → t'.abs = t.abs → (∃ C, t' = { t with links := C } ∧ ∀ e ∈ C, AFr w.heap.size e.a) → ∀ n4 n41 n42 n43 n44 n45 n46 n47 n48 n49 n50 n51 n52 n53 n54 n55, Q .normal { tmps := #[u0, .pointer (some ⟨w.heap.size, 0, none⟩), .pointer (some ⟨w.heap.size + 1, 0, none⟩), u3, n4, u5, u6, u7, u8, u9, u10, u11, u12, u13, u14, u15, u16, u17, u18, u19, u20, u21, u22, u23, u24, u25, u26, u27, u28, u29, u30, u31, u32, u33, u34, u35, u36, u37, u38, .int .i64 (t.links.length : Nat), .int .i64 (t.links.length : Nat), n41, n42, n43, n44, n45, n46, n47, n48, n49, n50, n51, n52, n53, n54, n55, u56, u57, u58, u59, u60, u61, u62, u63, u64, u65, u66, u67, u68, u69, u70, u71, u72, u73, u74, u75, u76, u77, u78, u79, u80, u81, u82, u83], defers := [] } W') :
    (sub Try.f31 [1, 1, 1, 1, 1, 0, 1, 0]).wp Try.prog (Exit.inBlock 2 Q) { tmps := #[u0, .pointer (some ⟨w.heap.size, 0, none⟩), .pointer (some ⟨w.heap.size + 1, 0, none⟩), u3, u4, u5, u6, u7, u8, u9, u10, u11, u12, u13, u14, u15, u16, u17, u18, u19, u20, u21, u22, u23, u24, u25, u26, u27, u28, u29, u30, u31, u32, u33, u34, u35, u36, u37, u38, .int .i64 (t.links.length : Nat), .int .i64 0, u41, u42, u43, u44, u45, u46, u47, u48, u49, u50, u51, u52, u53, u54, u55, u56, u57, u58, u59, u60, u61, u62, u63, u64, u65, u66, u67, u68, u69, u70, u71, u72, u73, u74, u75, u76, u77, u78, u79, u80, u81, u82, u83], defers := [] } W := by
  have HI0 : Hid (Cp w W B 77 4 0 (.slice t.la t.links.length t.lc) t.links 0 []) := Cp.start ho2 HT.out.linkl HK.out.fr
  have hnI : (t.links.length : Int) ≤ 140737488355328 := by have := HT.out.links.fit; omega
  clear ho2
  dsimp only [sub, nav, kid, Try.f31, Option.getD, if_true, if_false]
  go_wp2
  go_loopw [40] (fun i wr => ∃ (p : Nat) (C : List El), p ≤ t.links.length ∧ i = .int .i64 p ∧ Hid (Cp w wr B 77 4 0 (.slice t.la t.links.length t.lc) t.links p C ∧ Wk w wr t ∧ TrOk wr B { t with links := C ++ t.links.drop p } ∧ ∀ e ∈ C, AFr w.heap.size e.a)) (fun i _ => t.links.length - (intOf i).toNat)
  case atStart => exact ⟨0, [], Nat.zero_le _, rfl, HI0.out, HK.out, HT.out, by simp⟩
  case round =>
    obtain ⟨p, C, hp, rfl, I⟩ := hrel
    by_cases hlt : p < t.links.length
    · have hpI : (p : Int) < t.links.length := by omega
      have hx : t.links[p]? = some (t.links[p]) := List.getElem?_eq_getElem _
      have hxm := List.mem_of_getElem? hx
      generalize t.links[p] = x at hx hxm
      have hrow := I.out.1.row
      have hxo := I.out.1.ds x hxm
      have hall : ∀ y ∈ C ++ t.links.drop p, y.cl.length = 5 := by
        intro y hy
        rcases List.mem_append.1 hy with h | h
        · exact (El.cl_len (I.out.1.ls y h))
        · exact (El.cl_len (I.out.1.ds y (List.mem_of_mem_drop h)))
      have hx2 : (C ++ t.links.drop p)[p]? = some x := by rw [List.getElem?_append_right (by rw [I.out.1.len]; omega), I.out.1.len]; simpa using hx
      obtain ⟨g, gc, e1, k1, hz, hgl⟩ := own_cells hrow (j := p * 5 + 4) (x := .slice x.a x.l.length x.c) (by rw [show p * 5 + 4 = p * 5 + 4 from rfl]; exact (flat_at (f := El.cl) hall hx2 4 (by omega)).trans (El.at_cl hxo.hp))
      have HGE : Hid (Value.slice t.la t.links.length t.lc = Value.slice (some ⟨g, 0, none⟩) t.links.length gc) := e1
      have hgT : g ≠ w.heap.size := fun e => by
        have := own_ne hrow I.out.2.1.b1 (by decide)
        rw [e1, ← e] at this
        exact this rfl
      have hgR : g ≠ w.heap.size + 1 := fun e => by
        have := own_ne hrow I.out.2.1.b2 (by decide)
        rw [e1, ← e] at this
        exact this rfl
      have S3 : wr.cell? ⟨w.heap.size, 14, none⟩ = some (.slice (some ⟨g, 0, none⟩) t.links.length gc) := by rw [← e1]; exact at_cells I.out.2.1.b1 14 t.at_links
      have C46 : ∀ w', Fr [] wr w' → Calls Try.prog 46 #[.slice x.a x.l.length x.c] w' (fun e w5 => ∃ v, e = .returned v ∧ Hid (w5.ownsRow w.heap.size 109 4 v x.l.length (flatS x.l)) ∧ Fr [] wr w5) := fun w' f' => (clone46 (hxo.sl.fr f' (Away.nil _ _)) (flatS_one _)).mono fun e w5 ⟨v, h1, h2, h3⟩ => ⟨v, h1, own_low h2 (Nat.le_trans I.out.2.1.fr.size f'.size), f'.trans h3⟩
      have m3 : ∀ w', Fr [g] wr w' → w'.cell? ⟨w.heap.size, 14, none⟩ = some (.slice (some ⟨g, 0, none⟩) t.links.length gc) := fun w' f' => f'.cell1 S3 (by simpa using Ne.symm hgT)
      have K1 : wr.cell? ⟨g, p * 5 + 4, none⟩ = some (.slice x.a x.l.length x.c) := k1
      have ZZ : ∀ w', Fr [] wr w' → ∀ i, w'.frozen? ⟨g, i, none⟩ = false := fun w' f' i => by
        have := hz i
        simp only [World.frozen?] at this ⊢
        rw [f'.block _ hgl (by simp)]
        exact this
      have HGL : Hid (g < wr.heap.size ∧ g ≠ w.heap.size ∧ g ≠ w.heap.size + 1) := ⟨hgl, hgT, hgR⟩
      have HX2 : Hid (t.links[p]? = some x) := hx
      clear hxo hall hx2 hrow hgl hgT hgR hz hx hxm S3 e1 k1
      go_upto_region 12 with fail
      refine reg_in (fun w' => Fr [g] wr w') ?_
      have hF : Fr [] wr wr.drew := (Fr.refl _ _).drew
      have hS : Fr [g] wr wr.drew := hF.sub (by simp)
      generalize wr.drew = Y at *
      refine tk 0 (some 43) (.pointer (some ⟨w.heap.size, 14, none⟩)) rfl rfl (Or.inl ⟨rfl, fun wq hSq => by first | rfl | go_simp⟩) (by decide +kernel) hS ?_
      simp only [Act.put, List.setIfInBounds_toArray, List.set_cons_zero, List.set_cons_succ]
      refine tk 1 (some 44) (.slice (some ⟨g, 0, none⟩) t.links.length gc) rfl rfl (Or.inl ⟨rfl, fun wq hSq => by (have q := m3 wq hSq; go_simp)⟩) (by decide +kernel) hS ?_
      simp only [Act.put, List.setIfInBounds_toArray, List.set_cons_zero, List.set_cons_succ]
      refine tk 2 (some 45) (.int .i64 (p : Int)) rfl rfl (Or.inl ⟨rfl, fun wq hSq => by first | rfl | go_simp⟩) (by decide +kernel) hS ?_
      simp only [Act.put, List.setIfInBounds_toArray, List.set_cons_zero, List.set_cons_succ]
      refine tk 3 (some 46) (.pointer (some ⟨w.heap.size, 14, none⟩)) rfl rfl (Or.inl ⟨rfl, fun wq hSq => by first | rfl | go_simp⟩) (by decide +kernel) hS ?_
      simp only [Act.put, List.setIfInBounds_toArray, List.set_cons_zero, List.set_cons_succ]
      refine tk 4 (some 47) (.slice (some ⟨g, 0, none⟩) t.links.length gc) rfl rfl (Or.inl ⟨rfl, fun wq hSq => by (have q := m3 wq hSq; go_simp)⟩) (by decide +kernel) hS ?_
      simp only [Act.put, List.setIfInBounds_toArray, List.set_cons_zero, List.set_cons_succ]
      refine tk 5 (some 48) (.int .i64 (p : Int)) rfl rfl (Or.inl ⟨rfl, fun wq hSq => by first | rfl | go_simp⟩) (by decide +kernel) hS ?_
      simp only [Act.put, List.setIfInBounds_toArray, List.set_cons_zero, List.set_cons_succ]
      refine tk 6 (some 49) (.pointer (some ⟨g, p * 5, none⟩)) rfl rfl (Or.inl ⟨rfl, fun wq hSq => by go_simp⟩) (by decide +kernel) hS ?_
      simp only [Act.put, List.setIfInBounds_toArray, List.set_cons_zero, List.set_cons_succ]
      refine tk 7 (some 50) (.pointer (some ⟨g, p * 5 + 4, none⟩)) rfl rfl (Or.inl ⟨rfl, fun wq hSq => by go_simp⟩) (by decide +kernel) hS ?_
      simp only [Act.put, List.setIfInBounds_toArray, List.set_cons_zero, List.set_cons_succ]
      refine wpAnyH_ready (rs := [8]) (by decide +kernel) (by simp) ?_
      refine AllReadyH.cons rfl (fun K hK => ?_) AllReadyH.nil
      have q := hF.cell1 K1 (by simp)
      go_simp
      clear q
      refine hK.out _ _ hS (fun _ => ?_)
      clear hK K
      try simp only [List.getElem_toArray, List.getElem_cons_succ, List.getElem_cons_zero, Act.put, List.setIfInBounds_toArray, List.set_cons_zero, List.set_cons_succ]
      refine wpAnyH_ready (rs := [9]) (by decide +kernel) (by simp) ?_
      refine AllReadyH.cons rfl (fun K hK => ?_) AllReadyH.nil
      go_simp
      refine (C46 _ hF).mono ?_
      rintro e w5 ⟨v5, rfl, hoy, F5⟩
      obtain ⟨ya, yc, rfl, _⟩ := own_slice hoy.out
      have hS : Fr [g] wr w5 := F5.sub (by simp)
      clear hF
      refine hK.out _ _ hS (fun _ => ?_)
      clear hK K
      try simp only [List.getElem_toArray, List.getElem_cons_succ, List.getElem_cons_zero, Act.put, List.setIfInBounds_toArray, List.set_cons_zero, List.set_cons_succ]
      refine tk 10 (some 53) (.pointer (some ⟨g, p * 5, none⟩)) rfl rfl (Or.inl ⟨rfl, fun wq hSq => by go_simp⟩) (by decide +kernel) hS ?_
      simp only [Act.put, List.setIfInBounds_toArray, List.set_cons_zero, List.set_cons_succ]
      refine tk 11 (some 54) (.pointer (some ⟨g, p * 5 + 4, none⟩)) rfl rfl (Or.inl ⟨rfl, fun wq hSq => by go_simp⟩) (by decide +kernel) hS ?_
      simp only [Act.put, List.setIfInBounds_toArray, List.set_cons_zero, List.set_cons_succ]
      refine wpAnyH_ready (rs := [12]) (by decide +kernel) (by simp) ?_
      refine AllReadyH.cons rfl (fun K hK => ?_) AllReadyH.nil
      have q := F5.cell1 K1 (by simp)
      have q2 := ZZ _ F5
      go_simp
      clear q q2
      have hS := hS.setCell (p := ⟨g, p * 5 + 4, none⟩) (.inl (by simp)) (.slice ya x.l.length yc)
      refine hK.out _ _ hS (fun _ => ?_)
      clear hK K
      try simp only [List.getElem_toArray, List.getElem_cons_succ, List.getElem_cons_zero, Act.put, List.setIfInBounds_toArray, List.set_cons_zero, List.set_cons_succ]
      refine wpAnyH_done (by decide +kernel) ?_ _
      refine plain_end ?_

      have HF5 : Hid (Fr [] wr w5) := F5
      clear C46 m3 K1 ZZ hS F5
      go_wp2
      go_roundw
      case rel =>
        refine ⟨p + 1, C ++ [{ x with a := ya, c := yc }], hlt, by go_num, ?_⟩
        obtain ⟨I1, I2, I3, I4⟩ := I.out
        have G1 := HGL.out
        have T5 := I3.fr0 HF5.out
        rw [HGE.out] at I1
        have jn := I1.next (by decide) (by decide) HB.out HX2.out HF5.out hoy.out
        obtain ⟨hgw, cur, hcur⟩ := own_block (own_fr I1.row HF5.out (by simp))
        have hBg : B ≤ g := Nat.le_trans HB.out hgw
        have hfit := I3.links.fit
        have hlen : (C ++ t.links.drop p).length = t.links.length := by simp [I1.len]; omega
        have hlen2 : ((C ++ [({ x with a := ya, c := yc } : El)]) ++ t.links.drop (p + 1)).length = t.links.length := by simp [I1.len]; omega
        have hoa : t.la = some ⟨g, 0, none⟩ := by have := HGE.out; injection this
        have hoc : t.lc = gc := by have := HGE.out; injection this
        have hrow2 := jn.row
        rw [← hlen2] at hrow2
        unfold Hid
        rw [HGE.out]
        refine ⟨jn, (I2.step HF5.out).oth G1.2.1 G1.2.2 hgw _ _, ⟨T5.ins.oth hcur (by decide) hBg _ _, T5.ops.oth hcur (by decide) hBg _ _, fun e he => (T5.opl e he).oth hcur (by decide) hBg _ _, (by have q := SL.own (B := B) hrow2 (by decide) (y := 56) (by rw [hlen2, ← hlen]; exact hfit); rw [← hoa, ← hoc] at q; exact q), ?_, T5.virts.oth hcur (by decide) hBg _ _, fun e he => (T5.virtl e he).oth hcur (by decide) hBg _ _, T5.back.oth hcur (by decide) hBg _ _⟩, ?_⟩
        · intro e he
          rcases List.mem_append.1 he with he | he
          · exact jn.ls e he
          · exact jn.ds e (List.mem_of_mem_drop he)
        · intro e he
          rcases List.mem_append.1 he with he | he
          · exact I4 e he
          · simp only [List.mem_singleton] at he
            rw [he]
            exact AFr.own hoy.out
      case measure => simp [intOf]; omega
    · obtain rfl : p = t.links.length := by omega
      obtain ⟨I1, I2, I3, I4⟩ := I.out
      have hC : C.length = t.links.length := I1.len
      have K2 : Wk w wr { t with links := C } := ⟨by have := I2.b1; unfold Tr.arr Tr.cl Tr.tl at this ⊢; simp only [hC]; exact this, I2.b2, I2.fr⟩
      have T2 : TrOk wr B { t with links := C } := by simpa using I3
      have A2 : ({ t with links := C } : Tr).abs = t.abs := by
        have h1 := I1.same
        rw [List.take_of_length_le (Nat.le_refl _)] at h1
        unfold Tr.abs
        simp only [h1]
      have HH : Hid (Wk w wr { t with links := C } ∧ TrOk wr B { t with links := C } ∧ ({ t with links := C } : Tr).abs = t.abs ∧ ∃ C', ({ t with links := C } : Tr) = { t with links := C' } ∧ ∀ e ∈ C', AFr w.heap.size e.a) := ⟨K2, T2, A2, C, rfl, I4⟩
      clear I1 I2 I3 I4 I hp HK HT HI0 K2 T2 A2
      go_wp2
      exact h _ wr HH.out.1 HH.out.2.1 HH.out.2.2.1 HH.out.2.2.2 _ _ _ _ _ _ _ _ _ _ _ _ _ _ _ _
end Go.Proofs.Ytnhjplfdfbbihaa
namespace Go.Proofs.Ytnhjplfdfbbihaa
open Go.RowKit
set_option linter.unusedVariables false
set_option linter.unusedSimpArgs false


set_option maxRecDepth 100000 in
set_option maxHeartbeats 8000000 in
theorem loopF31c {w W : World} {B : Nat} {t : Tr} (HK : Hid (Wk w W t)) (HT : Hid (TrOk W B t)) (HB : Hid (B ≤ w.heap.size)) (ho2 : W.ownsRow w.heap.size 79 2 (.slice t.va t.virts.length t.vc) t.virts.length (flatE t.virts))
    {Q : Exit → Act → World → Prop} {u0 u3 u4 u5 u6 u7 u8 u9 u10 u11 u12 u13 u14 u15 u16 u17 u18 u19 u20 u21 u22 u23 u24 u25 u26 u27 u28 u29 u30 u31 u32 u33 u34 u35 u36 u37 u38 u39 u40 u41 u42 u43 u44 u45 u46 u47 u48 u49 u50 u51 u52 u53 u54 u55 u56 u57 u58 u59 u60 u61 u64 u65 u66 u67 u68 u69 u70 u71 u72 u73 u74 u75 u76 u77 u78 u79 u80 u81 u82 u83 : Value}
    (h : ∀ t' W', Wk w W' t' → TrOk W' B t' → t'.abs = t.abs → (∃ C, t' = { t with virts := C } ∧ ∀ e ∈ C, AFr w.heap.size e.a) → ∀ n5 n64 n65 n66 n67 n68 n69 n70 n71 n72 n73 n74 n75 n76 n77 n78, Q .normal { tmps := #[u0, .pointer (some ⟨w.heap.size, 0, none⟩), .pointer (some ⟨w.heap.size + 1, 0, none⟩), u3, u4, n5, u6, u7, u8, u9, u10, u11, u12, u13, u14, u15, u16, u17, u18, u19, u20, u21, u22, u23, u24, u25, u26, u27, u28, u29, u30, u31, u32, u33, u34, u35, u36, u37, u38, u39, u40, u41, u42, u43, u44, u45, u46, u47, u48, u49, u50, u51, u52, u53, u54, u55, u56, u57, u58, u59, u60, u61, .int .i64 (t.virts.length : Nat), .int .i64 (t.virts.length : Nat), n64, n65, n66, n67, n68, n69, n70, n71, n72, n73, n74, n75, n76, n77, n78, u79, u80, u81, u82, u83], defers := [] } W') :
    (sub Try.f31 [1, 1, 1, 1, 1, 1, 1, 0, 1, 0]).wp Try.prog (Exit.inBlock 4 Q) { tmps := #[u0, .pointer (some ⟨w.heap.size, 0, none⟩), .pointer (some ⟨w.heap.size + 1, 0, none⟩), u3, u4, u5, u6, u7, u8, u9, u10, u11, u12, u13, u14, u15, u16, u17, u18, u19, u20, u21, u22, u23, u24, u25, u26, u27, u28, u29, u30, u31, u32, u33, u34, u35, u36, u37, u38, u39, u40, u41, u42, u43, u44, u45, u46, u47, u48, u49, u50, u51, u52, u53, u54, u55, u56, u57, u58, u59, u60, u61, .int .i64 (t.virts.length : Nat), .int .i64 0, u64, u65, u66, u67, u68, u69, u70, u71, u72, u73, u74, u75, u76, u77, u78, u79, u80, u81, u82, u83], defers := [] } W := by
  have HI0 : Hid (Cp w W B 79 1 0 (.slice t.va t.virts.length t.vc) t.virts 0 []) := Cp.start ho2 HT.out.virtl HK.out.fr
  have hnI : (t.virts.length : Int) ≤ 140737488355328 := by have := HT.out.virts.fit; omega
  clear ho2
  dsimp only [sub, nav, kid, Try.f31, Option.getD, if_true, if_false]
  go_wp2
  go_loopw [63] (fun i wr => ∃ (p : Nat) (C : List El), p ≤ t.virts.length ∧ i = .int .i64 p ∧ Hid (Cp w wr B 79 1 0 (.slice t.va t.virts.length t.vc) t.virts p C ∧ Wk w wr t ∧ TrOk wr B { t with virts := C ++ t.virts.drop p } ∧ ∀ e ∈ C, AFr w.heap.size e.a)) (fun i _ => t.virts.length - (intOf i).toNat)
  case atStart => exact ⟨0, [], Nat.zero_le _, rfl, HI0.out, HK.out, HT.out, by simp⟩
  case round =>
    obtain ⟨p, C, hp, rfl, I⟩ := hrel
    by_cases hlt : p < t.virts.length
    · have hpI : (p : Int) < t.virts.length := by omega
      have hx : t.virts[p]? = some (t.virts[p]) := List.getElem?_eq_getElem _
      have hxm := List.mem_of_getElem? hx
      generalize t.virts[p] = x at hx hxm
      have hrow := I.out.1.row
      have hxo := I.out.1.ds x hxm
      have hall : ∀ y ∈ C ++ t.virts.drop p, y.cl.length = 2 := by
        intro y hy
        rcases List.mem_append.1 hy with h | h
        · exact (El.cl_len (I.out.1.ls y h))
        · exact (El.cl_len (I.out.1.ds y (List.mem_of_mem_drop h)))
      have hx2 : (C ++ t.virts.drop p)[p]? = some x := by rw [List.getElem?_append_right (by rw [I.out.1.len]; omega), I.out.1.len]; simpa using hx
      obtain ⟨g, gc, e1, k1, hz, hgl⟩ := own_cells hrow (j := p * 2 + 1) (x := .slice x.a x.l.length x.c) (by rw [show p * 2 + 1 = p * 2 + 1 from rfl]; exact (flat_at (f := El.cl) hall hx2 1 (by omega)).trans (El.at_cl hxo.hp))
      have HGE : Hid (Value.slice t.va t.virts.length t.vc = Value.slice (some ⟨g, 0, none⟩) t.virts.length gc) := e1
      have hgT : g ≠ w.heap.size := fun e => by
        have := own_ne hrow I.out.2.1.b1 (by decide)
        rw [e1, ← e] at this
        exact this rfl
      have hgR : g ≠ w.heap.size + 1 := fun e => by
        have := own_ne hrow I.out.2.1.b2 (by decide)
        rw [e1, ← e] at this
        exact this rfl
      have S3 : wr.cell? ⟨w.heap.size, 15, none⟩ = some (.slice (some ⟨g, 0, none⟩) t.virts.length gc) := by rw [← e1]; exact at_cells I.out.2.1.b1 15 t.at_virts
      have C46 : ∀ w', Fr [] wr w' → Calls Try.prog 46 #[.slice x.a x.l.length x.c] w' (fun e w5 => ∃ v, e = .returned v ∧ Hid (w5.ownsRow w.heap.size 109 4 v x.l.length (flatS x.l)) ∧ Fr [] wr w5) := fun w' f' => (clone46 (hxo.sl.fr f' (Away.nil _ _)) (flatS_one _)).mono fun e w5 ⟨v, h1, h2, h3⟩ => ⟨v, h1, own_low h2 (Nat.le_trans I.out.2.1.fr.size f'.size), f'.trans h3⟩
      have m3 : ∀ w', Fr [g] wr w' → w'.cell? ⟨w.heap.size, 15, none⟩ = some (.slice (some ⟨g, 0, none⟩) t.virts.length gc) := fun w' f' => f'.cell1 S3 (by simpa using Ne.symm hgT)
      have K1 : wr.cell? ⟨g, p * 2 + 1, none⟩ = some (.slice x.a x.l.length x.c) := k1
      have ZZ : ∀ w', Fr [] wr w' → ∀ i, w'.frozen? ⟨g, i, none⟩ = false := fun w' f' i => by
        have := hz i
        simp only [World.frozen?] at this ⊢
        rw [f'.block _ hgl (by simp)]
        exact this
      have HGL : Hid (g < wr.heap.size ∧ g ≠ w.heap.size ∧ g ≠ w.heap.size + 1) := ⟨hgl, hgT, hgR⟩
      have HX2 : Hid (t.virts[p]? = some x) := hx
      clear hxo hall hx2 hrow hgl hgT hgR hz hx hxm S3 e1 k1
      go_upto_region 18 with fail
      refine reg_in (fun w' => Fr [g] wr w') ?_
      have hF : Fr [] wr wr.drew := (Fr.refl _ _).drew
      have hS : Fr [g] wr wr.drew := hF.sub (by simp)
      generalize wr.drew = Y at *
      refine tk 0 (some 66) (.pointer (some ⟨w.heap.size, 15, none⟩)) rfl rfl (Or.inl ⟨rfl, fun wq hSq => by first | rfl | go_simp⟩) (by decide +kernel) hS ?_
      simp only [Act.put, List.setIfInBounds_toArray, List.set_cons_zero, List.set_cons_succ]
      refine tk 1 (some 67) (.slice (some ⟨g, 0, none⟩) t.virts.length gc) rfl rfl (Or.inl ⟨rfl, fun wq hSq => by (have q := m3 wq hSq; go_simp)⟩) (by decide +kernel) hS ?_
      simp only [Act.put, List.setIfInBounds_toArray, List.set_cons_zero, List.set_cons_succ]
      refine tk 2 (some 68) (.int .i64 (p : Int)) rfl rfl (Or.inl ⟨rfl, fun wq hSq => by first | rfl | go_simp⟩) (by decide +kernel) hS ?_
      simp only [Act.put, List.setIfInBounds_toArray, List.set_cons_zero, List.set_cons_succ]
      refine tk 3 (some 69) (.pointer (some ⟨w.heap.size, 15, none⟩)) rfl rfl (Or.inl ⟨rfl, fun wq hSq => by first | rfl | go_simp⟩) (by decide +kernel) hS ?_
      simp only [Act.put, List.setIfInBounds_toArray, List.set_cons_zero, List.set_cons_succ]
      refine tk 4 (some 70) (.slice (some ⟨g, 0, none⟩) t.virts.length gc) rfl rfl (Or.inl ⟨rfl, fun wq hSq => by (have q := m3 wq hSq; go_simp)⟩) (by decide +kernel) hS ?_
      simp only [Act.put, List.setIfInBounds_toArray, List.set_cons_zero, List.set_cons_succ]
      refine tk 5 (some 71) (.int .i64 (p : Int)) rfl rfl (Or.inl ⟨rfl, fun wq hSq => by first | rfl | go_simp⟩) (by decide +kernel) hS ?_
      simp only [Act.put, List.setIfInBounds_toArray, List.set_cons_zero, List.set_cons_succ]
      refine tk 6 (some 72) (.pointer (some ⟨g, p * 2, none⟩)) rfl rfl (Or.inl ⟨rfl, fun wq hSq => by go_simp⟩) (by decide +kernel) hS ?_
      simp only [Act.put, List.setIfInBounds_toArray, List.set_cons_zero, List.set_cons_succ]
      refine tk 7 (some 73) (.pointer (some ⟨g, p * 2 + 1, none⟩)) rfl rfl (Or.inl ⟨rfl, fun wq hSq => by go_simp⟩) (by decide +kernel) hS ?_
      simp only [Act.put, List.setIfInBounds_toArray, List.set_cons_zero, List.set_cons_succ]
      refine wpAnyH_ready (rs := [8]) (by decide +kernel) (by simp) ?_
      refine AllReadyH.cons rfl (fun K hK => ?_) AllReadyH.nil
      have q := hF.cell1 K1 (by simp)
      go_simp
      clear q
      refine hK.out _ _ hS (fun _ => ?_)
      clear hK K
      try simp only [List.getElem_toArray, List.getElem_cons_succ, List.getElem_cons_zero, Act.put, List.setIfInBounds_toArray, List.set_cons_zero, List.set_cons_succ]
      refine wpAnyH_ready (rs := [9]) (by decide +kernel) (by simp) ?_
      refine AllReadyH.cons rfl (fun K hK => ?_) AllReadyH.nil
      go_simp
      refine (C46 _ hF).mono ?_
      rintro e w5 ⟨v5, rfl, hoy, F5⟩
      obtain ⟨ya, yc, rfl, _⟩ := own_slice hoy.out
      have hS : Fr [g] wr w5 := F5.sub (by simp)
      clear hF
      refine hK.out _ _ hS (fun _ => ?_)
      clear hK K
      try simp only [List.getElem_toArray, List.getElem_cons_succ, List.getElem_cons_zero, Act.put, List.setIfInBounds_toArray, List.set_cons_zero, List.set_cons_succ]
      refine tk 10 (some 76) (.pointer (some ⟨g, p * 2, none⟩)) rfl rfl (Or.inl ⟨rfl, fun wq hSq => by go_simp⟩) (by decide +kernel) hS ?_
      simp only [Act.put, List.setIfInBounds_toArray, List.set_cons_zero, List.set_cons_succ]
      refine tk 11 (some 77) (.pointer (some ⟨g, p * 2 + 1, none⟩)) rfl rfl (Or.inl ⟨rfl, fun wq hSq => by go_simp⟩) (by decide +kernel) hS ?_
      simp only [Act.put, List.setIfInBounds_toArray, List.set_cons_zero, List.set_cons_succ]
      refine wpAnyH_ready (rs := [12]) (by decide +kernel) (by simp) ?_
      refine AllReadyH.cons rfl (fun K hK => ?_) AllReadyH.nil
      have q := F5.cell1 K1 (by simp)
      have q2 := ZZ _ F5
      go_simp
      clear q q2
      have hS := hS.setCell (p := ⟨g, p * 2 + 1, none⟩) (.inl (by simp)) (.slice ya x.l.length yc)
      refine hK.out _ _ hS (fun _ => ?_)
      clear hK K
      try simp only [List.getElem_toArray, List.getElem_cons_succ, List.getElem_cons_zero, Act.put, List.setIfInBounds_toArray, List.set_cons_zero, List.set_cons_succ]
      refine wpAnyH_done (by decide +kernel) ?_ _
      refine plain_end ?_

      have HF5 : Hid (Fr [] wr w5) := F5
      clear C46 m3 K1 ZZ hS F5
      go_wp2
      go_roundw
      case rel =>
        refine ⟨p + 1, C ++ [{ x with a := ya, c := yc }], hlt, by go_num, ?_⟩
        obtain ⟨I1, I2, I3, I4⟩ := I.out
        have G1 := HGL.out
        have T5 := I3.fr0 HF5.out
        rw [HGE.out] at I1
        have jn := I1.next (by decide) (by decide) HB.out HX2.out HF5.out hoy.out
        obtain ⟨hgw, cur, hcur⟩ := own_block (own_fr I1.row HF5.out (by simp))
        have hBg : B ≤ g := Nat.le_trans HB.out hgw
        have hfit := I3.virts.fit
        have hlen : (C ++ t.virts.drop p).length = t.virts.length := by simp [I1.len]; omega
        have hlen2 : ((C ++ [({ x with a := ya, c := yc } : El)]) ++ t.virts.drop (p + 1)).length = t.virts.length := by simp [I1.len]; omega
        have hoa : t.va = some ⟨g, 0, none⟩ := by have := HGE.out; injection this
        have hoc : t.vc = gc := by have := HGE.out; injection this
        have hrow2 := jn.row
        rw [← hlen2] at hrow2
        unfold Hid
        rw [HGE.out]
        refine ⟨jn, (I2.step HF5.out).oth G1.2.1 G1.2.2 hgw _ _, ⟨T5.ins.oth hcur (by decide) hBg _ _, T5.ops.oth hcur (by decide) hBg _ _, fun e he => (T5.opl e he).oth hcur (by decide) hBg _ _, T5.links.oth hcur (by decide) hBg _ _, fun e he => (T5.linkl e he).oth hcur (by decide) hBg _ _, (by have q := SL.own (B := B) hrow2 (by decide) (y := 32) (by rw [hlen2, ← hlen]; exact hfit); rw [← hoa, ← hoc] at q; exact q), ?_, T5.back.oth hcur (by decide) hBg _ _⟩, ?_⟩
        · intro e he
          rcases List.mem_append.1 he with he | he
          · exact jn.ls e he
          · exact jn.ds e (List.mem_of_mem_drop he)
        · intro e he
          rcases List.mem_append.1 he with he | he
          · exact I4 e he
          · simp only [List.mem_singleton] at he
            rw [he]
            exact AFr.own hoy.out
      case measure => simp [intOf]; omega
    · obtain rfl : p = t.virts.length := by omega
      obtain ⟨I1, I2, I3, I4⟩ := I.out
      have hC : C.length = t.virts.length := I1.len
      have K2 : Wk w wr { t with virts := C } := ⟨by have := I2.b1; unfold Tr.arr Tr.cl Tr.tl at this ⊢; simp only [hC]; exact this, I2.b2, I2.fr⟩
      have T2 : TrOk wr B { t with virts := C } := by simpa using I3
      have A2 : ({ t with virts := C } : Tr).abs = t.abs := by
        have h1 := I1.same
        rw [List.take_of_length_le (Nat.le_refl _)] at h1
        unfold Tr.abs
        simp only [h1]
      have HH : Hid (Wk w wr { t with virts := C } ∧ TrOk wr B { t with virts := C } ∧ ({ t with virts := C } : Tr).abs = t.abs ∧ ∃ C', ({ t with virts := C } : Tr) = { t with virts := C' } ∧ ∀ e ∈ C', AFr w.heap.size e.a) := ⟨K2, T2, A2, C, rfl, I4⟩
      clear I1 I2 I3 I4 I hp HK HT HI0 K2 T2 A2
      go_wp2
      exact h _ wr HH.out.1 HH.out.2.1 HH.out.2.2.1 HH.out.2.2.2 _ _ _ _ _ _ _ _ _ _ _ _ _ _ _ _
end Go.Proofs.Ytnhjplfdfbbihaa
namespace Go.Proofs.Ytnhjplfdfbbihaa
open Go.RowKit
set_option linter.unusedVariables false
set_option linter.unusedSimpArgs false


set_option maxRecDepth 100000 in
set_option maxHeartbeats 8000000 in
theorem copied_fr {w : World} {B : Nat} {t : Tr} (ht : TrOk w B t) (hB : B ≤ w.heap.size) :
    Calls Try.prog 31 #[.agg t.arr] w fun e w' => ∃ t' : Tr, e = .returned (.agg t'.arr) ∧ t'.abs = t.abs ∧ TrOk w' B t' ∧ Fr [] w w' ∧ FrL 8 w.heap.size t' := by
  have F2 : Fr [] w ((w.alloc (.cells t.arr 35)).alloc (.cells #[.int .i64 0, .int .i64 0, .int .i64 0, .int .i64 0, .int .i64 0, .int .i64 0, .int .i64 0, .int .i64 0, .int .i64 0, .int .i64 0, .int .i64 0, .int .i64 0, .slice none 0 0, .slice none 0 0, .slice none 0 0, .slice none 0 0, .slice none 0 0] 35)) := ((Fr.refl _ _).alloc _).alloc _
  have K0 : Wk w ((w.alloc (.cells t.arr 35)).alloc (.cells #[.int .i64 0, .int .i64 0, .int .i64 0, .int .i64 0, .int .i64 0, .int .i64 0, .int .i64 0, .int .i64 0, .int .i64 0, .int .i64 0, .int .i64 0, .int .i64 0, .slice none 0 0, .slice none 0 0, .slice none 0 0, .slice none 0 0, .slice none 0 0] 35)) t := ⟨(((Fr.refl [] _).alloc _).block _ (by simp) (by simp)).trans (heap_alloc_new w _), blk2 w _ _, F2⟩
  have T0 := ht.fr0 F2
  clear ht F2
  go_enter Try.func31, Try.ntmps31
  go_upto_region 1 with fail
  generalize (w.alloc (.cells t.arr 35)).alloc (.cells #[.int .i64 0, .int .i64 0, .int .i64 0, .int .i64 0, .int .i64 0, .int .i64 0, .int .i64 0, .int .i64 0, .int .i64 0, .int .i64 0, .int .i64 0, .int .i64 0, .slice none 0 0, .slice none 0 0, .slice none 0 0, .slice none 0 0, .slice none 0 0] 35) = W at *
  have HK : Hid (Wk w W t) := K0
  have HT : Hid (TrOk W B t) := T0
  have HB : Hid (B ≤ w.heap.size) := hB
  clear K0 T0 hB
  have cc : W.cell? ⟨w.heap.size, 12, none⟩ = some (.slice t.ia t.ins.length t.ic) := at_cells HK.out.b1 12 t.at_ins
  have C := clone22 HT.out.ins (by simp [Value.oneCell'])
  have HL : Hid (roT 3 = true) := rfl
  go_wp2_with fail
  with_reducible (refine C.mono ?_)
  rintro e X ⟨v, rfl, ho, f3⟩
  obtain ⟨va, vc, rfl, _⟩ := own_slice ho
  have K1 := HK.out.step f3
  have T1 := HT.out.fr0 f3
  have K2 : Wk w (X.setCell ⟨w.heap.size, 12, none⟩ (.slice va t.ins.length vc)) { t with ia := va, ic := vc } := K1.set 12 _ (Tr.set_ins _ va vc)
  have ho1 := own_setT K1 ho (by decide) 12 (.slice va t.ins.length vc)
  have T2 : TrOk (X.setCell ⟨w.heap.size, 12, none⟩ (.slice va t.ins.length vc)) B { t with ia := va, ic := vc } := ⟨SL.own ho1 rfl T1.ins.fit, T1.ops.set K1 HB.out _ _, fun e he => (T1.opl e he).set K1 HB.out _ _, T1.links.set K1 HB.out _ _, fun e he => (T1.linkl e he).set K1 HB.out _ _, T1.virts.set K1 HB.out _ _, fun e he => (T1.virtl e he).set K1 HB.out _ _, T1.back.set K1 HB.out _ _⟩
  have A2 : Hid (({ t with ia := va, ic := vc } : Tr).abs = t.abs ∧ FrL (0 + 1) w.heap.size ({ t with ia := va, ic := vc } : Tr)) := ⟨rfl, (FrL.zero w.heap.size t).set_ins ((AFr.own ho1).low HK.out.fr.size)⟩
  have cc' : X.cell? ⟨w.heap.size, 12, none⟩ = some _ := at_cells K1.b1 12 t.at_ins
  have z1 : X.frozen? ⟨w.heap.size, 12, none⟩ = false := by simp [World.frozen?, K1.b1]
  have ho2 : (X.setCell ⟨w.heap.size, 12, none⟩ (.slice va t.ins.length vc)).ownsRow w.heap.size 3 1 (.slice ({ t with ia := va, ic := vc } : Tr).ia ({ t with ia := va, ic := vc } : Tr).ins.length ({ t with ia := va, ic := vc } : Tr).ic) ({ t with ia := va, ic := vc } : Tr).ins.length (({ t with ia := va, ic := vc } : Tr).ins.map (Value.int .i64)) := own_low ho1 (show w.heap.size ≤ W.heap.size from HK.out.fr.size)
  clear C cc ho ho1 f3 K1 T1 HK HT  HL
  generalize ({ t with ia := va, ic := vc } : Tr) = t1 at K2 T2 A2 ho2
  go_upto_region 2 with fail
  clear cc' z1
  generalize X.setCell ⟨w.heap.size, 12, none⟩ (.slice va t.ins.length vc) = W at *
  have HK : Hid (Wk w W t1) := K2
  have HT : Hid (TrOk W B t1) := T2
  have HA : Hid (t1.abs = t.abs ∧ FrL (0 + 1) w.heap.size t1) := A2
  clear K2 T2 A2
  clear ho2
  have cc : W.cell? ⟨w.heap.size, 13, none⟩ = some (.slice t1.oa t1.ops.length t1.oc) := at_cells HK.out.b1 13 t1.at_ops
  have C := clone45 HT.out.ops (flatE_one _)
  have HL : Hid (roT 55 = true) := rfl
  go_wp2_with fail
  with_reducible (refine C.mono ?_)
  rintro e X ⟨v, rfl, ho, f3⟩
  obtain ⟨va, vc, rfl, _⟩ := own_slice ho
  have K1 := HK.out.step f3
  have T1 := HT.out.fr0 f3
  have K2 : Wk w (X.setCell ⟨w.heap.size, 13, none⟩ (.slice va t1.ops.length vc)) { t1 with oa := va, oc := vc } := K1.set 13 _ (Tr.set_ops _ va vc)
  have ho1 := own_setT K1 ho (by decide) 13 (.slice va t1.ops.length vc)
  have T2 : TrOk (X.setCell ⟨w.heap.size, 13, none⟩ (.slice va t1.ops.length vc)) B { t1 with oa := va, oc := vc } := ⟨T1.ins.set K1 HB.out _ _, SL.own ho1 rfl T1.ops.fit, fun e he => (T1.opl e he).set K1 HB.out _ _, T1.links.set K1 HB.out _ _, fun e he => (T1.linkl e he).set K1 HB.out _ _, T1.virts.set K1 HB.out _ _, fun e he => (T1.virtl e he).set K1 HB.out _ _, T1.back.set K1 HB.out _ _⟩
  have A2 : Hid (({ t1 with oa := va, oc := vc } : Tr).abs = t.abs ∧ FrL (1 + 1) w.heap.size ({ t1 with oa := va, oc := vc } : Tr)) := ⟨HA.out.1, HA.out.2.set_ops ((AFr.own ho1).low HK.out.fr.size)⟩
  have cc' : X.cell? ⟨w.heap.size, 13, none⟩ = some _ := at_cells K1.b1 13 t1.at_ops
  have z1 : X.frozen? ⟨w.heap.size, 13, none⟩ = false := by simp [World.frozen?, K1.b1]
  have ho2 : (X.setCell ⟨w.heap.size, 13, none⟩ (.slice va t1.ops.length vc)).ownsRow w.heap.size 55 5 (.slice ({ t1 with oa := va, oc := vc } : Tr).oa ({ t1 with oa := va, oc := vc } : Tr).ops.length ({ t1 with oa := va, oc := vc } : Tr).oc) ({ t1 with oa := va, oc := vc } : Tr).ops.length (flatE ({ t1 with oa := va, oc := vc } : Tr).ops) := own_low ho1 (show w.heap.size ≤ W.heap.size from HK.out.fr.size)
  clear C cc ho ho1 f3 K1 T1 HK HT HA HL
  generalize ({ t1 with oa := va, oc := vc } : Tr) = t2 at K2 T2 A2 ho2
  go_upto_region 3 with fail
  clear cc' z1
  generalize X.setCell ⟨w.heap.size, 13, none⟩ (.slice va t1.ops.length vc) = W at *
  have HK : Hid (Wk w W t2) := K2
  have HT : Hid (TrOk W B t2) := T2
  have HA : Hid (t2.abs = t.abs ∧ FrL (1 + 1) w.heap.size t2) := A2
  clear K2 T2 A2
  have c3 : W.cell? ⟨w.heap.size, 13, none⟩ = some (.slice t2.oa t2.ops.length t2.oc) := at_cells HK.out.b1 13 t2.at_ops
  have ho3 : Hid _ := ho2
  clear ho2
  go_wp2
  clear c3
  refine loopF31a HK HT HB ho3.out ?_
  intro t3 W1 K2 T2 A2 A3 _ _ _ _ _ _ _ _ _ _ _ _ _ _ _ _
  have HK2 : Hid (Wk w W1 t3) := K2
  have HT2 : Hid (TrOk W1 B t3) := T2
  have HA2 : Hid (t3.abs = t.abs ∧ FrL (2 + 1) w.heap.size t3) := ⟨A2.trans HA.out.1, HA.out.2.loop_ops A3⟩
  clear HK HT HA ho3 K2 T2 A2 A3
  go_upto_region 8 with fail
  have HK : Hid (Wk w W1 t3) := HK2
  have HT : Hid (TrOk W1 B t3) := HT2
  have HA : Hid (t3.abs = t.abs ∧ FrL (2 + 1) w.heap.size t3) := HA2
  clear HK2 HT2 HA2
  generalize W1 = W at *
  have cc : W.cell? ⟨w.heap.size, 14, none⟩ = some (.slice t3.la t3.links.length t3.lc) := at_cells HK.out.b1 14 t3.at_links
  have C := clone47 HT.out.links (flatE_one _)
  have HL : Hid (roT 77 = true) := rfl
  go_wp2_with fail
  with_reducible (refine C.mono ?_)
  rintro e X ⟨v, rfl, ho, f3⟩
  obtain ⟨va, vc, rfl, _⟩ := own_slice ho
  have K1 := HK.out.step f3
  have T1 := HT.out.fr0 f3
  have K2 : Wk w (X.setCell ⟨w.heap.size, 14, none⟩ (.slice va t3.links.length vc)) { t3 with la := va, lc := vc } := K1.set 14 _ (Tr.set_links _ va vc)
  have ho1 := own_setT K1 ho (by decide) 14 (.slice va t3.links.length vc)
  have T2 : TrOk (X.setCell ⟨w.heap.size, 14, none⟩ (.slice va t3.links.length vc)) B { t3 with la := va, lc := vc } := ⟨T1.ins.set K1 HB.out _ _, T1.ops.set K1 HB.out _ _, fun e he => (T1.opl e he).set K1 HB.out _ _, SL.own ho1 rfl T1.links.fit, fun e he => (T1.linkl e he).set K1 HB.out _ _, T1.virts.set K1 HB.out _ _, fun e he => (T1.virtl e he).set K1 HB.out _ _, T1.back.set K1 HB.out _ _⟩
  have A2 : Hid (({ t3 with la := va, lc := vc } : Tr).abs = t.abs ∧ FrL (3 + 1) w.heap.size ({ t3 with la := va, lc := vc } : Tr)) := ⟨HA.out.1, HA.out.2.set_links ((AFr.own ho1).low HK.out.fr.size)⟩
  have cc' : X.cell? ⟨w.heap.size, 14, none⟩ = some _ := at_cells K1.b1 14 t3.at_links
  have z1 : X.frozen? ⟨w.heap.size, 14, none⟩ = false := by simp [World.frozen?, K1.b1]
  have ho2 : (X.setCell ⟨w.heap.size, 14, none⟩ (.slice va t3.links.length vc)).ownsRow w.heap.size 77 5 (.slice ({ t3 with la := va, lc := vc } : Tr).la ({ t3 with la := va, lc := vc } : Tr).links.length ({ t3 with la := va, lc := vc } : Tr).lc) ({ t3 with la := va, lc := vc } : Tr).links.length (flatE ({ t3 with la := va, lc := vc } : Tr).links) := own_low ho1 (show w.heap.size ≤ W.heap.size from HK.out.fr.size)
  clear C cc ho ho1 f3 K1 T1 HK HT HA HL
  generalize ({ t3 with la := va, lc := vc } : Tr) = t4 at K2 T2 A2 ho2
  go_upto_region 9 with fail
  clear cc' z1
  generalize X.setCell ⟨w.heap.size, 14, none⟩ (.slice va t3.links.length vc) = W at *
  have HK : Hid (Wk w W t4) := K2
  have HT : Hid (TrOk W B t4) := T2
  have HA : Hid (t4.abs = t.abs ∧ FrL (3 + 1) w.heap.size t4) := A2
  clear K2 T2 A2
  have c3 : W.cell? ⟨w.heap.size, 14, none⟩ = some (.slice t4.la t4.links.length t4.lc) := at_cells HK.out.b1 14 t4.at_links
  have ho3 : Hid _ := ho2
  clear ho2
  go_wp2
  clear c3
  refine loopF31b HK HT HB ho3.out ?_
  intro t5 W1 K2 T2 A2 A3 _ _ _ _ _ _ _ _ _ _ _ _ _ _ _ _
  have HK2 : Hid (Wk w W1 t5) := K2
  have HT2 : Hid (TrOk W1 B t5) := T2
  have HA2 : Hid (t5.abs = t.abs ∧ FrL (4 + 1) w.heap.size t5) := ⟨A2.trans HA.out.1, HA.out.2.loop_links A3⟩
  clear HK HT HA ho3 K2 T2 A2 A3
  go_upto_region 14 with fail
  have HK : Hid (Wk w W1 t5) := HK2
  have HT : Hid (TrOk W1 B t5) := HT2
  have HA : Hid (t5.abs = t.abs ∧ FrL (4 + 1) w.heap.size t5) := HA2
  clear HK2 HT2 HA2
  generalize W1 = W at *
  have cc : W.cell? ⟨w.heap.size, 15, none⟩ = some (.slice t5.va t5.virts.length t5.vc) := at_cells HK.out.b1 15 t5.at_virts
  have C := clone48 HT.out.virts (flatE_one _)
  have HL : Hid (roT 79 = true) := rfl
  go_wp2_with fail
  with_reducible (refine C.mono ?_)
  rintro e X ⟨v, rfl, ho, f3⟩
  obtain ⟨va, vc, rfl, _⟩ := own_slice ho
  have K1 := HK.out.step f3
  have T1 := HT.out.fr0 f3
  have K2 : Wk w (X.setCell ⟨w.heap.size, 15, none⟩ (.slice va t5.virts.length vc)) { t5 with va := va, vc := vc } := K1.set 15 _ (Tr.set_virts _ va vc)
  have ho1 := own_setT K1 ho (by decide) 15 (.slice va t5.virts.length vc)
  have T2 : TrOk (X.setCell ⟨w.heap.size, 15, none⟩ (.slice va t5.virts.length vc)) B { t5 with va := va, vc := vc } := ⟨T1.ins.set K1 HB.out _ _, T1.ops.set K1 HB.out _ _, fun e he => (T1.opl e he).set K1 HB.out _ _, T1.links.set K1 HB.out _ _, fun e he => (T1.linkl e he).set K1 HB.out _ _, SL.own ho1 rfl T1.virts.fit, fun e he => (T1.virtl e he).set K1 HB.out _ _, T1.back.set K1 HB.out _ _⟩
  have A2 : Hid (({ t5 with va := va, vc := vc } : Tr).abs = t.abs ∧ FrL (5 + 1) w.heap.size ({ t5 with va := va, vc := vc } : Tr)) := ⟨HA.out.1, HA.out.2.set_virts ((AFr.own ho1).low HK.out.fr.size)⟩
  have cc' : X.cell? ⟨w.heap.size, 15, none⟩ = some _ := at_cells K1.b1 15 t5.at_virts
  have z1 : X.frozen? ⟨w.heap.size, 15, none⟩ = false := by simp [World.frozen?, K1.b1]
  have ho2 : (X.setCell ⟨w.heap.size, 15, none⟩ (.slice va t5.virts.length vc)).ownsRow w.heap.size 79 2 (.slice ({ t5 with va := va, vc := vc } : Tr).va ({ t5 with va := va, vc := vc } : Tr).virts.length ({ t5 with va := va, vc := vc } : Tr).vc) ({ t5 with va := va, vc := vc } : Tr).virts.length (flatE ({ t5 with va := va, vc := vc } : Tr).virts) := own_low ho1 (show w.heap.size ≤ W.heap.size from HK.out.fr.size)
  clear C cc ho ho1 f3 K1 T1 HK HT HA HL
  generalize ({ t5 with va := va, vc := vc } : Tr) = t6 at K2 T2 A2 ho2
  go_upto_region 15 with fail
  clear cc' z1
  generalize X.setCell ⟨w.heap.size, 15, none⟩ (.slice va t5.virts.length vc) = W at *
  have HK : Hid (Wk w W t6) := K2
  have HT : Hid (TrOk W B t6) := T2
  have HA : Hid (t6.abs = t.abs ∧ FrL (5 + 1) w.heap.size t6) := A2
  clear K2 T2 A2
  have c3 : W.cell? ⟨w.heap.size, 15, none⟩ = some (.slice t6.va t6.virts.length t6.vc) := at_cells HK.out.b1 15 t6.at_virts
  have ho3 : Hid _ := ho2
  clear ho2
  go_wp2
  clear c3
  refine loopF31c HK HT HB ho3.out ?_
  intro t7 W1 K2 T2 A2 A3 _ _ _ _ _ _ _ _ _ _ _ _ _ _ _ _
  have HK2 : Hid (Wk w W1 t7) := K2
  have HT2 : Hid (TrOk W1 B t7) := T2
  have HA2 : Hid (t7.abs = t.abs ∧ FrL (6 + 1) w.heap.size t7) := ⟨A2.trans HA.out.1, HA.out.2.loop_virts A3⟩
  clear HK HT HA ho3 K2 T2 A2 A3
  go_upto_region 20 with fail
  have HK : Hid (Wk w W1 t7) := HK2
  have HT : Hid (TrOk W1 B t7) := HT2
  have HA : Hid (t7.abs = t.abs ∧ FrL (6 + 1) w.heap.size t7) := HA2
  clear HK2 HT2 HA2
  generalize W1 = W at *
  have cc : W.cell? ⟨w.heap.size, 16, none⟩ = some (.slice t7.ba t7.back.length t7.bc) := at_cells HK.out.b1 16 t7.at_back
  have C := clone46 HT.out.back (flatS_one _)
  have HL : Hid (roT 109 = true) := rfl
  go_wp2_with fail
  with_reducible (refine C.mono ?_)
  rintro e X ⟨v, rfl, ho, f3⟩
  obtain ⟨va, vc, rfl, _⟩ := own_slice ho
  have K1 := HK.out.step f3
  have T1 := HT.out.fr0 f3
  have K2 : Wk w (X.setCell ⟨w.heap.size, 16, none⟩ (.slice va t7.back.length vc)) { t7 with ba := va, bc := vc } := K1.set 16 _ (Tr.set_back _ va vc)
  have ho1 := own_setT K1 ho (by decide) 16 (.slice va t7.back.length vc)
  have T2 : TrOk (X.setCell ⟨w.heap.size, 16, none⟩ (.slice va t7.back.length vc)) B { t7 with ba := va, bc := vc } := ⟨T1.ins.set K1 HB.out _ _, T1.ops.set K1 HB.out _ _, fun e he => (T1.opl e he).set K1 HB.out _ _, T1.links.set K1 HB.out _ _, fun e he => (T1.linkl e he).set K1 HB.out _ _, T1.virts.set K1 HB.out _ _, fun e he => (T1.virtl e he).set K1 HB.out _ _, SL.own ho1 rfl T1.back.fit⟩
  have A2 : Hid (({ t7 with ba := va, bc := vc } : Tr).abs = t.abs ∧ FrL (7 + 1) w.heap.size ({ t7 with ba := va, bc := vc } : Tr)) := ⟨HA.out.1, HA.out.2.set_back ((AFr.own ho1).low HK.out.fr.size)⟩
  have cc' : X.cell? ⟨w.heap.size, 16, none⟩ = some _ := at_cells K1.b1 16 t7.at_back
  have z1 : X.frozen? ⟨w.heap.size, 16, none⟩ = false := by simp [World.frozen?, K1.b1]
  have ho2 : (X.setCell ⟨w.heap.size, 16, none⟩ (.slice va t7.back.length vc)).ownsRow w.heap.size 109 4 (.slice ({ t7 with ba := va, bc := vc } : Tr).ba ({ t7 with ba := va, bc := vc } : Tr).back.length ({ t7 with ba := va, bc := vc } : Tr).bc) ({ t7 with ba := va, bc := vc } : Tr).back.length (flatS ({ t7 with ba := va, bc := vc } : Tr).back) := own_low ho1 (show w.heap.size ≤ W.heap.size from HK.out.fr.size)
  clear C cc ho ho1 f3 K1 T1 HK HT HA HL
  generalize ({ t7 with ba := va, bc := vc } : Tr) = t8 at K2 T2 A2 ho2
  go_upto_region 21 with fail
  clear cc' z1
  generalize X.setCell ⟨w.heap.size, 16, none⟩ (.slice va t7.back.length vc) = W at *
  have HK : Hid (Wk w W t8) := K2
  have HT : Hid (TrOk W B t8) := T2
  have HA : Hid (t8.abs = t.abs ∧ FrL (7 + 1) w.heap.size t8) := A2
  clear K2 T2 A2
  have K1 := HK.out
  have HF : Hid (Fr [] w (W.setRow (w.heap.size + 1) t8.arr)) := K1.fr.setRow (.inr (by simp)) _
  have hres : (W.setRow (w.heap.size + 1) t8.arr).heap[w.heap.size + 1]? = some (.cells t8.arr 35 (0, 0)) := setRow_heap _ _ _ _ _ _ K1.b2
  have HT2 : Hid (TrOk (W.setRow (w.heap.size + 1) t8.arr) B t8) := HT.out.fr (S := [w.heap.size + 1]) ((Fr.refl _ _).setRow (.inl (by simp)) _) (fun k hk => by
    simp at hk
    subst hk
    refine ⟨Nat.le_trans HB.out (Nat.le_succ _), fun c t hc => ?_⟩
    rw [K1.b2] at hc
    cases hc
    rfl)
  have b1 := K1.b1
  have b2 := K1.b2
  have h17 := t8.arr_size
  have h1 := t8.arr_one
  clear K1
  go_wp2_with (first
    | refine wpList_ld35 rfl (.tmp 1) rfl w.heap.size rfl t8.arr h17 b1 ?_
    | refine wpList_st35 rfl (.tmp 2) (.tmp 83) rfl (w.heap.size + 1) t8.arr rfl rfl _ b2 h17 rfl h1 ?_)
  refine bodyPost_ret (v := .agg t8.arr) ?_ rfl ⟨t8, rfl, HA.out.1, HT2.out, HF.out, HA.out.2⟩
  exact results35 res31 h17 rfl hres
end Go.Proofs.Ytnhjplfdfbbihaa
