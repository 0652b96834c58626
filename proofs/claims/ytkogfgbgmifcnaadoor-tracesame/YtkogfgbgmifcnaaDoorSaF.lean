/-
  Traces held against each other by the document: their operations; condition: they lie as told.
-/
import Derived.Test.YtkogfgbgmifcnaaDoorSaD
namespace Go.Proofs.YtkogfgbgmifcnaaDoor
open Go.RowKit
set_option linter.unusedVariables false
set_option linter.unusedSimpArgs false

set_option maxRecDepth 100000 in
set_option maxHeartbeats 16000000 in
theorem same22b {W : World} {B T1 T2 : Nat} {t u : Tr} (HT : Hid (Tw W B T1 T2 t u)) (HN : Hid (u.ops.length = t.ops.length)) (HW : Hid ((∀ e ∈ t.ops, ∀ s ∈ e.l, s.w) ∧ (∀ e ∈ u.ops, ∀ s ∈ e.l, s.w)))
    {Q : Exit → Act → World → Prop} {u0 u1 u4 u5 u6 u7 u8 u9 u10 u11 u12 u13 u14 u15 u16 u17 u18 u19 u20 u21 u22 u23 u24 u25 u26 u27 u28 u29 u30 u31 u32 u33 u34 u35 u36 u37 u38 u39 u40 u41 u42 u43 u44 u45 u46 u47 u48 u49 u50 u51 u52 u53 u54 u55 u56 u57 u58 u59 u60 u61 u62 u63 u64 u65 u66 u67 u68 u69 u70 u71 u72 u73 u74 u75 u76 u77 u78 u79 u80 u81 u82 u83 u84 u85 u86 u87 u88 u89 u90 u91 u92 u93 u94 u95 u98 u99 u100 u101 u102 u103 u104 u105 u106 u107 u108 u109 u110 u111 u112 u113 u114 u115 u116 u117 u118 u119 u120 u121 u122 u123 u124 u125 u126 u127 u128 u129 u130 u131 u132 u133 u134 u135 u136 u137 u138 u139 u140 u141 u142 u143 u144 u145 u146 u147 u148 u149 u150 u151 u152 u153 u154 u155 u156 u157 u158 u159 u160 u161 u162 u163 u164 u165 u166 u167 u168 u169 u170 u171 u172 u173 u174 u175 u176 u177 u178 u179 u180 u181 u182 u183 u184 u185 u186 u187 u188 u189 u190 u191 u192 u193 u194 u195 u196 u197 u198 u199 u200 u201 u202 u203 u204 u205 u206 u207 u208 u209 u210 u211 u212 u213 u214 u215 u216 u217 u218 u219 u220 u221 u222 u223 u224 u225 u226 u227 u228 u229 u230 u231 : Value}
    (h : Hid (∀ W', Fr [] W W' → t.ops.map El.abs = u.ops.map El.abs → ∀ n4 n6 n7 n8 n98 n99 n100 n101 n102 n103 n104 n105 n106 n107 n108 n109 n110 n111 n112 n113 n114 n115 n116 n117 n118 n119 n120 n121 n122 n123 n124 n125 n126 n127 n128 n129 n130 n131 n132 n133 n134 n135 n136 n137 n138 n139 n140 n141 n142 n143 n144, Q .normal { tmps := #[u0, u1, .pointer (some ⟨T1, 0, none⟩), .pointer (some ⟨T2, 0, none⟩), n4, u5, n6, n7, n8, u9, u10, u11, u12, u13, u14, u15, u16, u17, u18, u19, u20, u21, u22, u23, u24, u25, u26, u27, u28, u29, u30, u31, u32, u33, u34, u35, u36, u37, u38, u39, u40, u41, u42, u43, u44, u45, u46, u47, u48, u49, u50, u51, u52, u53, u54, u55, u56, u57, u58, u59, u60, u61, u62, u63, u64, u65, u66, u67, u68, u69, u70, u71, u72, u73, u74, u75, u76, u77, u78, u79, u80, u81, u82, u83, u84, u85, u86, u87, u88, u89, u90, u91, u92, u93, u94, u95, .int .i64 (t.ops.length : Nat), .int .i64 (t.ops.length : Nat), n98, n99, n100, n101, n102, n103, n104, n105, n106, n107, n108, n109, n110, n111, n112, n113, n114, n115, n116, n117, n118, n119, n120, n121, n122, n123, n124, n125, n126, n127, n128, n129, n130, n131, n132, n133, n134, n135, n136, n137, n138, n139, n140, n141, n142, n143, n144, u145, u146, u147, u148, u149, u150, u151, u152, u153, u154, u155, u156, u157, u158, u159, u160, u161, u162, u163, u164, u165, u166, u167, u168, u169, u170, u171, u172, u173, u174, u175, u176, u177, u178, u179, u180, u181, u182, u183, u184, u185, u186, u187, u188, u189, u190, u191, u192, u193, u194, u195, u196, u197, u198, u199, u200, u201, u202, u203, u204, u205, u206, u207, u208, u209, u210, u211, u212, u213, u214, u215, u216, u217, u218, u219, u220, u221, u222, u223, u224, u225, u226, u227, u228, u229, u230, u231], defers := [] } W'))
    (hr : Hid (∀ W', Fr [] W W' → ¬ (t.ops.map El.abs = u.ops.map El.abs) → ∀ n6 n7 n8 n98 n99 n100 n101 n102 n103 n104 n105 n106 n107 n108 n109 n110 n111 n112 n113 n114 n115 n116 n117 n118 n119 n120 n121 n122 n123 n124 n125 n126 n127 n128 n129 n130 n131 n132 n133 n134 n135 n136 n137 n138 n139 n140 n141 n142 n143 n144 n97, Q .ret { tmps := #[u0, u1, .pointer (some ⟨T1, 0, none⟩), .pointer (some ⟨T2, 0, none⟩), .bool false, u5, n6, n7, n8, u9, u10, u11, u12, u13, u14, u15, u16, u17, u18, u19, u20, u21, u22, u23, u24, u25, u26, u27, u28, u29, u30, u31, u32, u33, u34, u35, u36, u37, u38, u39, u40, u41, u42, u43, u44, u45, u46, u47, u48, u49, u50, u51, u52, u53, u54, u55, u56, u57, u58, u59, u60, u61, u62, u63, u64, u65, u66, u67, u68, u69, u70, u71, u72, u73, u74, u75, u76, u77, u78, u79, u80, u81, u82, u83, u84, u85, u86, u87, u88, u89, u90, u91, u92, u93, u94, u95, .int .i64 (t.ops.length : Nat), n97, n98, n99, n100, n101, n102, n103, n104, n105, n106, n107, n108, n109, n110, n111, n112, n113, n114, n115, n116, n117, n118, n119, n120, n121, n122, n123, n124, n125, n126, n127, n128, n129, n130, n131, n132, n133, n134, n135, n136, n137, n138, n139, n140, n141, n142, n143, n144, u145, u146, u147, u148, u149, u150, u151, u152, u153, u154, u155, u156, u157, u158, u159, u160, u161, u162, u163, u164, u165, u166, u167, u168, u169, u170, u171, u172, u173, u174, u175, u176, u177, u178, u179, u180, u181, u182, u183, u184, u185, u186, u187, u188, u189, u190, u191, u192, u193, u194, u195, u196, u197, u198, u199, u200, u201, u202, u203, u204, u205, u206, u207, u208, u209, u210, u211, u212, u213, u214, u215, u216, u217, u218, u219, u220, u221, u222, u223, u224, u225, u226, u227, u228, u229, u230, u231], defers := [] } W')) :
    (sub Tryd.f22 [1, 1, 1, 0, 1, 0]).wp Tryd.prog (Exit.inBlock 2 Q) { tmps := #[u0, u1, .pointer (some ⟨T1, 0, none⟩), .pointer (some ⟨T2, 0, none⟩), u4, u5, u6, u7, u8, u9, u10, u11, u12, u13, u14, u15, u16, u17, u18, u19, u20, u21, u22, u23, u24, u25, u26, u27, u28, u29, u30, u31, u32, u33, u34, u35, u36, u37, u38, u39, u40, u41, u42, u43, u44, u45, u46, u47, u48, u49, u50, u51, u52, u53, u54, u55, u56, u57, u58, u59, u60, u61, u62, u63, u64, u65, u66, u67, u68, u69, u70, u71, u72, u73, u74, u75, u76, u77, u78, u79, u80, u81, u82, u83, u84, u85, u86, u87, u88, u89, u90, u91, u92, u93, u94, u95, .int .i64 (t.ops.length : Nat), .int .i64 0, u98, u99, u100, u101, u102, u103, u104, u105, u106, u107, u108, u109, u110, u111, u112, u113, u114, u115, u116, u117, u118, u119, u120, u121, u122, u123, u124, u125, u126, u127, u128, u129, u130, u131, u132, u133, u134, u135, u136, u137, u138, u139, u140, u141, u142, u143, u144, u145, u146, u147, u148, u149, u150, u151, u152, u153, u154, u155, u156, u157, u158, u159, u160, u161, u162, u163, u164, u165, u166, u167, u168, u169, u170, u171, u172, u173, u174, u175, u176, u177, u178, u179, u180, u181, u182, u183, u184, u185, u186, u187, u188, u189, u190, u191, u192, u193, u194, u195, u196, u197, u198, u199, u200, u201, u202, u203, u204, u205, u206, u207, u208, u209, u210, u211, u212, u213, u214, u215, u216, u217, u218, u219, u220, u221, u222, u223, u224, u225, u226, u227, u228, u229, u230, u231], defers := [] } W := by
  have hnI : (t.ops.length : Int) ≤ 140737488355328 := by have := HT.out.o1.ops.fit; omega
  have F0 : Hid (Fr [] W W) := Fr.refl _ _
  dsimp only [sub, nav, kid, Tryd.f22, Option.getD, if_true, if_false]
  go_wp2
  go_loopw [97] (fun i wr => ∃ p : Nat, p ≤ t.ops.length ∧ i = .int .i64 p ∧ Hid (Fr [] W wr ∧ (t.ops.map El.abs).take p = (u.ops.map El.abs).take p)) (fun i _ => t.ops.length - (intOf i).toNat)
  case atStart => exact ⟨0, Nat.zero_le _, rfl, F0.out, rfl⟩
  case round =>
    obtain ⟨p, hp, rfl, FF⟩ := hrel
    have F : Hid (Fr [] W wr) := FF.out.1
    by_cases hlt : p < t.ops.length
    · have hpI : (p : Int) < t.ops.length := by omega
      have HTw : Hid (Tw wr B T1 T2 t u) := HT.out.fr F.out
      obtain ⟨e, he⟩ : ∃ e, t.ops[p]? = some e := ⟨_, List.getElem?_eq_getElem hlt⟩
      obtain ⟨f, hf⟩ : ∃ f, u.ops[p]? = some f := ⟨_, List.getElem?_eq_getElem (by rw [HN.out]; exact hlt)⟩
      have ok1 := HTw.out.o1.opl e (List.mem_of_getElem? he)
      have ok2 := HTw.out.o2.opl f (List.mem_of_getElem? hf)
      have LW : Hid ((∀ s ∈ e.l, s.w) ∧ (∀ s ∈ f.l, s.w)) := ⟨HW.out.1 e (List.mem_of_getElem? he), HW.out.2 f (List.mem_of_getElem? hf)⟩
      obtain ⟨b, o, e1, r1, _⟩ := HTw.out.o1.ops.elem (f := El.cl) (fun x hx => El.cl_len (HTw.out.o1.opl x hx)) (by omega) he
      obtain ⟨b2, o2, e2, r2, _⟩ := HTw.out.o2.ops.elem (f := El.cl) (fun x hx => El.cl_len (HTw.out.o2.opl x hx)) (by omega) hf
      have s1 := at_cells HTw.out.b1 13 t.at_ops
      have s2 := at_cells HTw.out.b2 13 u.at_ops
      rw [e1] at s1
      rw [e2, HN.out] at s2
      have HMORE : Hid (e.abs = f.abs → (t.ops.map El.abs).take (p + 1) = (u.ops.map El.abs).take (p + 1)) := fun q => take_more FF.out.2 (x := e.abs) (by simp [he]) (by rw [q]; simp [hf])
      have HNE : Hid (¬ e.abs = f.abs → ¬ t.ops.map El.abs = u.ops.map El.abs) := fun q h => q (by
        have h1 : (t.ops.map El.abs)[p]? = some e.abs := by simp [he]
        have h2 : (u.ops.map El.abs)[p]? = some f.abs := by simp [hf]
        rw [h] at h1
        exact Option.some.inj (h1.symm.trans h2))
      obtain ⟨ep, eq, a, c, l⟩ := e
      obtain ⟨fp, fq, a', c', l'⟩ := f
      obtain ⟨x0, rfl⟩ := len1 ok1.hp
      obtain ⟨y0, y1, y2, rfl⟩ := len3 ok1.hq
      obtain ⟨x0', rfl⟩ := len1 ok2.hp
      obtain ⟨y0', y1', y2', rfl⟩ := len3 ok2.hq
      have L1 : Hid (SL wr B 51 a l.length c 4 32 (flatS l)) := ok1.sl
      have L2 : Hid (SL wr B 51 a' l'.length c' 4 32 (flatS l')) := ok2.sl
      have l1 : ∀ w', Fr [] wr w' → w'.rangeAt b (o + p * 5) [.int .i64 x0, .slice a l.length c, .int .i64 y0, .int .i64 y1, .int .i64 y2] := fun w' f => range_fr r1 f
      have l2 : ∀ w', Fr [] wr w' → w'.rangeAt b2 (o2 + p * 5) [.int .i64 x0', .slice a' l'.length c', .int .i64 y0', .int .i64 y1', .int .i64 y2'] := fun w' f => range_fr r2 f
      have g1 : ∀ w', Fr [] wr w' → w'.cell? ⟨T1, 13, none⟩ = some (.slice (some ⟨b, o, none⟩) t.ops.length t.oc) := fun w' f => f.cell1 s1 (by simp)
      have g2 : ∀ w', Fr [] wr w' → w'.cell? ⟨T2, 13, none⟩ = some (.slice (some ⟨b2, o2, none⟩) t.ops.length u.oc) := fun w' f => f.cell1 s2 (by simp)
      clear s1 s2 he hf e1 e2 ok1 ok2 r1 r2
      go_upto_region 12 with fail
      refine reg_in (fun w' => Fr [] wr w') ?_
      have hS : Fr [] wr wr.drew := (Fr.refl _ _).drew
      generalize wr.drew = Y at *
      refine tk 0 (some 100) (.pointer (some ⟨T1, 13, none⟩)) rfl rfl (Or.inl ⟨rfl, fun wq hSq => by first | rfl | go_simp⟩) (by decide +kernel) hS ?_
      simp only [Act.put, List.setIfInBounds_toArray, List.set_cons_zero, List.set_cons_succ]
      refine tk 1 (some 101) (.slice (some ⟨b, o, none⟩) t.ops.length t.oc) rfl rfl (Or.inl ⟨rfl, fun wq hSq => by (have q := g1 wq hSq; go_simp)⟩) (by decide +kernel) hS ?_
      simp only [Act.put, List.setIfInBounds_toArray, List.set_cons_zero, List.set_cons_succ]
      refine tk 2 (some 102) (.int .i64 (p : Int)) rfl rfl (Or.inl ⟨rfl, fun wq hSq => by first | rfl | go_simp⟩) (by decide +kernel) hS ?_
      simp only [Act.put, List.setIfInBounds_toArray, List.set_cons_zero, List.set_cons_succ]
      refine tk 3 (some 103) (.pointer (some ⟨b, o + p * 5, none⟩)) rfl rfl (Or.inl ⟨rfl, fun wq hSq => by go_simp⟩) (by decide +kernel) hS ?_
      simp only [Act.put, List.setIfInBounds_toArray, List.set_cons_zero, List.set_cons_succ]
      refine tk 4 (some 104) (.agg #[.int .i64 x0, .slice a l.length c, .int .i64 y0, .int .i64 y1, .int .i64 y2]) rfl rfl ?_ (by decide +kernel) hS ?_
      · exact yieldsIf_load_mid rfl 48 (.tmp 103) rfl b (o + p * 5) rfl [.int .i64 x0, .slice a l.length c, .int .i64 y0, .int .i64 y1, .int .i64 y2] _ l1 Tryd.underlying48 rfl info48
      simp only [Act.put, List.setIfInBounds_toArray, List.set_cons_zero, List.set_cons_succ]
      refine tk 5 (some 105) (.pointer (some ⟨T2, 13, none⟩)) rfl rfl (Or.inl ⟨rfl, fun wq hSq => by first | rfl | go_simp⟩) (by decide +kernel) hS ?_
      simp only [Act.put, List.setIfInBounds_toArray, List.set_cons_zero, List.set_cons_succ]
      refine tk 6 (some 106) (.slice (some ⟨b2, o2, none⟩) t.ops.length u.oc) rfl rfl (Or.inl ⟨rfl, fun wq hSq => by (have q := g2 wq hSq; go_simp)⟩) (by decide +kernel) hS ?_
      simp only [Act.put, List.setIfInBounds_toArray, List.set_cons_zero, List.set_cons_succ]
      refine tk 7 (some 107) (.int .i64 (p : Int)) rfl rfl (Or.inl ⟨rfl, fun wq hSq => by first | rfl | go_simp⟩) (by decide +kernel) hS ?_
      simp only [Act.put, List.setIfInBounds_toArray, List.set_cons_zero, List.set_cons_succ]
      refine tk 8 (some 108) (.pointer (some ⟨b2, o2 + p * 5, none⟩)) rfl rfl (Or.inl ⟨rfl, fun wq hSq => by go_simp⟩) (by decide +kernel) hS ?_
      simp only [Act.put, List.setIfInBounds_toArray, List.set_cons_zero, List.set_cons_succ]
      refine tk 9 (some 109) (.agg #[.int .i64 x0', .slice a' l'.length c', .int .i64 y0', .int .i64 y1', .int .i64 y2']) rfl rfl ?_ (by decide +kernel) hS ?_
      · exact yieldsIf_load_mid rfl 48 (.tmp 108) rfl b2 (o2 + p * 5) rfl [.int .i64 x0', .slice a' l'.length c', .int .i64 y0', .int .i64 y1', .int .i64 y2'] _ l2 Tryd.underlying48 rfl info48
      simp only [Act.put, List.setIfInBounds_toArray, List.set_cons_zero, List.set_cons_succ]
      refine wpAnyH_ready (rs := [10, 11]) (by decide +kernel) (by simp) ?_
      refine AllReadyH.cons rfl (fun K hK => ?_) ?_
      · skip
        go_simp
        have bA := heap_alloc_new Y (.cells #[.int .i64 0, .slice none 0 0, .int .i64 0, .int .i64 0, .int .i64 0] 48)
        have fA : Fr [] Y (Y.alloc (.cells #[.int .i64 0, .slice none 0 0, .int .i64 0, .int .i64 0, .int .i64 0] 48)) := (Fr.refl _ _).alloc _
        have hA : wr.heap.size ≤ Y.heap.size := hS.size
        have hS := hS.trans fA
        clear fA
        generalize Y.alloc (.cells #[.int .i64 0, .slice none 0 0, .int .i64 0, .int .i64 0, .int .i64 0] 48) = YA at *
        generalize Y.heap.size = nA at *
        refine hK.out _ _ hS (fun _ => ?_)
        clear hK K
        try simp only [List.getElem_toArray, List.getElem_cons_succ, List.getElem_cons_zero, Act.put, List.setIfInBounds_toArray, List.set_cons_zero, List.set_cons_succ]
        refine wpAnyH_ready (rs := [11]) (by decide +kernel) (by simp) ?_
        refine AllReadyH.cons rfl (fun K hK => ?_) AllReadyH.nil
        go_simp
        have bB := heap_alloc_new YA (.cells #[.int .i64 0, .slice none 0 0, .int .i64 0, .int .i64 0, .int .i64 0] 48)
        have fA : Fr [] YA (YA.alloc (.cells #[.int .i64 0, .slice none 0 0, .int .i64 0, .int .i64 0, .int .i64 0] 48)) := (Fr.refl _ _).alloc _
        have hB : wr.heap.size ≤ YA.heap.size := hS.size
        have hne : nA ≠ YA.heap.size := fun e => by have := (Array.getElem?_eq_some_iff.1 bA).1; omega
        have bA := (fA.block _ (Array.getElem?_eq_some_iff.1 bA).1 (by simp)).trans bA
        have hS := hS.trans fA
        clear fA
        generalize YA.alloc (.cells #[.int .i64 0, .slice none 0 0, .int .i64 0, .int .i64 0, .int .i64 0] 48) = YB at *
        generalize YA.heap.size = nB at *
        refine hK.out _ _ hS (fun _ => ?_)
        clear hK K
        try simp only [List.getElem_toArray, List.getElem_cons_succ, List.getElem_cons_zero, Act.put, List.setIfInBounds_toArray, List.set_cons_zero, List.set_cons_succ]
        refine wpAnyH_ready (rs := [12]) (by decide +kernel) (by simp) ?_
        refine AllReadyH.cons rfl (fun K hK => ?_) AllReadyH.nil
        refine wp_store_row 48 (.tmp 7) (.tmp 104) rfl nA #[.int .i64 x0, .slice a l.length c, .int .i64 y0, .int .i64 y1, .int .i64 y2] rfl rfl 48 _ bA (by rw [info48]; rfl) rfl (by simp [Value.oneCell']) ?_
        have bB := (setRow_other YB nA nB #[.int .i64 x0, .slice a l.length c, .int .i64 y0, .int .i64 y1, .int .i64 y2] (Ne.symm hne)).trans bB
        have bA := setRow_heap YB nA _ #[.int .i64 x0, .slice a l.length c, .int .i64 y0, .int .i64 y1, .int .i64 y2] _ _ bA
        have hS := hS.setRow (g := nA) (.inr hA) #[.int .i64 x0, .slice a l.length c, .int .i64 y0, .int .i64 y1, .int .i64 y2]
        generalize YB.setRow nA #[.int .i64 x0, .slice a l.length c, .int .i64 y0, .int .i64 y1, .int .i64 y2] = ZA at *
        refine hK.out _ _ hS (fun _ => ?_)
        clear hK K
        try simp only [List.getElem_toArray, List.getElem_cons_succ, List.getElem_cons_zero, Act.put, List.setIfInBounds_toArray, List.set_cons_zero, List.set_cons_succ]
        refine wpAnyH_ready (rs := [13]) (by decide +kernel) (by simp) ?_
        refine AllReadyH.cons rfl (fun K hK => ?_) AllReadyH.nil
        refine wp_store_row 48 (.tmp 8) (.tmp 109) rfl nB #[.int .i64 x0', .slice a' l'.length c', .int .i64 y0', .int .i64 y1', .int .i64 y2'] rfl rfl 48 _ bB (by rw [info48]; rfl) rfl (by simp [Value.oneCell']) ?_
        have bA := (setRow_other ZA nB nA #[.int .i64 x0', .slice a' l'.length c', .int .i64 y0', .int .i64 y1', .int .i64 y2'] hne).trans bA
        have bB := setRow_heap ZA nB _ #[.int .i64 x0', .slice a' l'.length c', .int .i64 y0', .int .i64 y1', .int .i64 y2'] _ _ bB
        have hS := hS.setRow (g := nB) (.inr hB) #[.int .i64 x0', .slice a' l'.length c', .int .i64 y0', .int .i64 y1', .int .i64 y2']
        generalize ZA.setRow nB #[.int .i64 x0', .slice a' l'.length c', .int .i64 y0', .int .i64 y1', .int .i64 y2'] = ZB at *
        refine hK.out _ _ hS (fun _ => ?_)
        clear hK K
        try simp only [List.getElem_toArray, List.getElem_cons_succ, List.getElem_cons_zero, Act.put, List.setIfInBounds_toArray, List.set_cons_zero, List.set_cons_succ]
        refine wpAnyH_done (by decide +kernel) ?_ _
        refine plain_end ?_
        clear l1 l2 g1 g2
        have HF0 : Hid (Fr [] wr ZB) := hS
        have hC := same49 (L1.out.fr hS (Away.nil _ _)) (L2.out.fr hS (Away.nil _ _)) LW.out.1 LW.out.2
        have k0 := at_cells bA 0 rfl
        have m0 := at_cells bB 0 rfl
        have k1 := at_cells bA 1 rfl
        have m1 := at_cells bB 1 rfl
        have k2 := at_cells bA 2 rfl
        have m2 := at_cells bB 2 rfl
        have k3 := at_cells bA 3 rfl
        have m3 := at_cells bB 3 rfl
        have k4 := at_cells bA 4 rfl
        have m4 := at_cells bB 4 rfl
        clear bA bB hS
        by_cases h_x0 : x0 = x0'
        rotate_left
        · have HNE : Hid (¬ t.ops.map El.abs = u.ops.map El.abs) := HNE.out (fun h => h_x0 (by simp only [El.abs, AE.mk.injEq, List.cons.injEq] at h; simp [h]))
          have HF : Hid (Fr [] W ZB) := F.out.trans HF0.out
          clear hC HMORE
          go_wp2
          exact hr.out _ HF.out HNE.out _ _ _ _ _ _ _ _ _ _ _ _ _ _ _ _ _ _ _ _ _ _ _ _ _ _ _ _ _ _ _ _ _ _ _ _ _ _ _ _ _ _ _ _ _ _ _ _ _ _ _
        subst h_x0
        by_cases h_y0 : y0 = y0'
        rotate_left
        · have HNE : Hid (¬ t.ops.map El.abs = u.ops.map El.abs) := HNE.out (fun h => h_y0 (by simp only [El.abs, AE.mk.injEq, List.cons.injEq] at h; simp [h]))
          have HF : Hid (Fr [] W ZB) := F.out.trans HF0.out
          clear hC HMORE
          go_wp2
          exact hr.out _ HF.out HNE.out _ _ _ _ _ _ _ _ _ _ _ _ _ _ _ _ _ _ _ _ _ _ _ _ _ _ _ _ _ _ _ _ _ _ _ _ _ _ _ _ _ _ _ _ _ _ _ _ _ _ _
        subst h_y0
        by_cases h_y1 : y1 = y1'
        rotate_left
        · have HNE : Hid (¬ t.ops.map El.abs = u.ops.map El.abs) := HNE.out (fun h => h_y1 (by simp only [El.abs, AE.mk.injEq, List.cons.injEq] at h; simp [h]))
          have HF : Hid (Fr [] W ZB) := F.out.trans HF0.out
          clear hC HMORE
          go_wp2
          exact hr.out _ HF.out HNE.out _ _ _ _ _ _ _ _ _ _ _ _ _ _ _ _ _ _ _ _ _ _ _ _ _ _ _ _ _ _ _ _ _ _ _ _ _ _ _ _ _ _ _ _ _ _ _ _ _ _ _
        subst h_y1
        by_cases h_y2 : y2 = y2'
        rotate_left
        · have HNE : Hid (¬ t.ops.map El.abs = u.ops.map El.abs) := HNE.out (fun h => h_y2 (by simp only [El.abs, AE.mk.injEq, List.cons.injEq] at h; simp [h]))
          have HF : Hid (Fr [] W ZB) := F.out.trans HF0.out
          clear hC HMORE
          go_wp2
          exact hr.out _ HF.out HNE.out _ _ _ _ _ _ _ _ _ _ _ _ _ _ _ _ _ _ _ _ _ _ _ _ _ _ _ _ _ _ _ _ _ _ _ _ _ _ _ _ _ _ _ _ _ _ _ _ _ _ _
        subst h_y2
        have HM : Hid (l = l' → (t.ops.map El.abs).take (p + 1) = (u.ops.map El.abs).take (p + 1)) := fun h => HMORE.out (by rw [h]; rfl)
        have HN2 : Hid (¬ l = l' → ¬ t.ops.map El.abs = u.ops.map El.abs) := fun h => HNE.out (fun q => h (by simp only [El.abs, AE.mk.injEq, List.cons.injEq] at q; simp [q]))
        clear HMORE HNE
        by_cases hl : l = l'
        · rw [decide_eq_true hl] at hC
          have HMORE : Hid ((t.ops.map El.abs).take (p + 1) = (u.ops.map El.abs).take (p + 1)) := HM.out hl
          clear HM HN2 hl
          go_wp2_with (go_at_call 49; refine hC.mono ?_; rintro e w' ⟨rfl, hS⟩)
          have HF : Hid (Fr [] W w') := F.out.trans (HF0.out.trans hS)
          clear hC hS
          go_wp2
          go_roundw
          case rel => exact ⟨p + 1, hlt, by go_num, HF.out, HMORE.out⟩
          case measure => simp [intOf]; omega
        · rw [decide_eq_false hl] at hC
          have HNE : Hid (¬ t.ops.map El.abs = u.ops.map El.abs) := HN2.out hl
          clear HM HN2 hl
          go_wp2_with (go_at_call 49; refine hC.mono ?_; rintro e w' ⟨rfl, hS⟩)
          have HF : Hid (Fr [] W w') := F.out.trans (HF0.out.trans hS)
          clear hC hS
          go_wp2
          exact hr.out _ HF.out HNE.out _ _ _ _ _ _ _ _ _ _ _ _ _ _ _ _ _ _ _ _ _ _ _ _ _ _ _ _ _ _ _ _ _ _ _ _ _ _ _ _ _ _ _ _ _ _ _ _ _ _ _
      refine AllReadyH.cons rfl (fun K hK => ?_) AllReadyH.nil
      go_simp
      have bB := heap_alloc_new Y (.cells #[.int .i64 0, .slice none 0 0, .int .i64 0, .int .i64 0, .int .i64 0] 48)
      have fA : Fr [] Y (Y.alloc (.cells #[.int .i64 0, .slice none 0 0, .int .i64 0, .int .i64 0, .int .i64 0] 48)) := (Fr.refl _ _).alloc _
      have hB : wr.heap.size ≤ Y.heap.size := hS.size
      have hS := hS.trans fA
      clear fA
      generalize Y.alloc (.cells #[.int .i64 0, .slice none 0 0, .int .i64 0, .int .i64 0, .int .i64 0] 48) = YB at *
      generalize Y.heap.size = nB at *
      refine hK.out _ _ hS (fun _ => ?_)
      clear hK K
      try simp only [List.getElem_toArray, List.getElem_cons_succ, List.getElem_cons_zero, Act.put, List.setIfInBounds_toArray, List.set_cons_zero, List.set_cons_succ]
      refine wpAnyH_ready (rs := [10]) (by decide +kernel) (by simp) ?_
      refine AllReadyH.cons rfl (fun K hK => ?_) AllReadyH.nil
      go_simp
      have bA := heap_alloc_new YB (.cells #[.int .i64 0, .slice none 0 0, .int .i64 0, .int .i64 0, .int .i64 0] 48)
      have fA : Fr [] YB (YB.alloc (.cells #[.int .i64 0, .slice none 0 0, .int .i64 0, .int .i64 0, .int .i64 0] 48)) := (Fr.refl _ _).alloc _
      have hA : wr.heap.size ≤ YB.heap.size := hS.size
      have hne : nB ≠ YB.heap.size := fun e => by have := (Array.getElem?_eq_some_iff.1 bB).1; omega
      have bB := (fA.block _ (Array.getElem?_eq_some_iff.1 bB).1 (by simp)).trans bB
      have hS := hS.trans fA
      clear fA
      generalize YB.alloc (.cells #[.int .i64 0, .slice none 0 0, .int .i64 0, .int .i64 0, .int .i64 0] 48) = YA at *
      generalize YB.heap.size = nA at *
      refine hK.out _ _ hS (fun _ => ?_)
      clear hK K
      try simp only [List.getElem_toArray, List.getElem_cons_succ, List.getElem_cons_zero, Act.put, List.setIfInBounds_toArray, List.set_cons_zero, List.set_cons_succ]
      refine wpAnyH_ready (rs := [12]) (by decide +kernel) (by simp) ?_
      refine AllReadyH.cons rfl (fun K hK => ?_) AllReadyH.nil
      refine wp_store_row 48 (.tmp 7) (.tmp 104) rfl nA #[.int .i64 x0, .slice a l.length c, .int .i64 y0, .int .i64 y1, .int .i64 y2] rfl rfl 48 _ bA (by rw [info48]; rfl) rfl (by simp [Value.oneCell']) ?_
      have bB := (setRow_other YA nA nB #[.int .i64 x0, .slice a l.length c, .int .i64 y0, .int .i64 y1, .int .i64 y2] hne).trans bB
      have bA := setRow_heap YA nA _ #[.int .i64 x0, .slice a l.length c, .int .i64 y0, .int .i64 y1, .int .i64 y2] _ _ bA
      have hS := hS.setRow (g := nA) (.inr hA) #[.int .i64 x0, .slice a l.length c, .int .i64 y0, .int .i64 y1, .int .i64 y2]
      generalize YA.setRow nA #[.int .i64 x0, .slice a l.length c, .int .i64 y0, .int .i64 y1, .int .i64 y2] = ZA at *
      refine hK.out _ _ hS (fun _ => ?_)
      clear hK K
      try simp only [List.getElem_toArray, List.getElem_cons_succ, List.getElem_cons_zero, Act.put, List.setIfInBounds_toArray, List.set_cons_zero, List.set_cons_succ]
      refine wpAnyH_ready (rs := [13]) (by decide +kernel) (by simp) ?_
      refine AllReadyH.cons rfl (fun K hK => ?_) AllReadyH.nil
      refine wp_store_row 48 (.tmp 8) (.tmp 109) rfl nB #[.int .i64 x0', .slice a' l'.length c', .int .i64 y0', .int .i64 y1', .int .i64 y2'] rfl rfl 48 _ bB (by rw [info48]; rfl) rfl (by simp [Value.oneCell']) ?_
      have bA := (setRow_other ZA nB nA #[.int .i64 x0', .slice a' l'.length c', .int .i64 y0', .int .i64 y1', .int .i64 y2'] (Ne.symm hne)).trans bA
      have bB := setRow_heap ZA nB _ #[.int .i64 x0', .slice a' l'.length c', .int .i64 y0', .int .i64 y1', .int .i64 y2'] _ _ bB
      have hS := hS.setRow (g := nB) (.inr hB) #[.int .i64 x0', .slice a' l'.length c', .int .i64 y0', .int .i64 y1', .int .i64 y2']
      generalize ZA.setRow nB #[.int .i64 x0', .slice a' l'.length c', .int .i64 y0', .int .i64 y1', .int .i64 y2'] = ZB at *
      refine hK.out _ _ hS (fun _ => ?_)
      clear hK K
      try simp only [List.getElem_toArray, List.getElem_cons_succ, List.getElem_cons_zero, Act.put, List.setIfInBounds_toArray, List.set_cons_zero, List.set_cons_succ]
      refine wpAnyH_done (by decide +kernel) ?_ _
      refine plain_end ?_
      clear l1 l2 g1 g2
      have HF0 : Hid (Fr [] wr ZB) := hS
      have hC := same49 (L1.out.fr hS (Away.nil _ _)) (L2.out.fr hS (Away.nil _ _)) LW.out.1 LW.out.2
      have k0 := at_cells bA 0 rfl
      have m0 := at_cells bB 0 rfl
      have k1 := at_cells bA 1 rfl
      have m1 := at_cells bB 1 rfl
      have k2 := at_cells bA 2 rfl
      have m2 := at_cells bB 2 rfl
      have k3 := at_cells bA 3 rfl
      have m3 := at_cells bB 3 rfl
      have k4 := at_cells bA 4 rfl
      have m4 := at_cells bB 4 rfl
      clear bA bB hS
      by_cases h_x0 : x0 = x0'
      rotate_left
      · have HNE : Hid (¬ t.ops.map El.abs = u.ops.map El.abs) := HNE.out (fun h => h_x0 (by simp only [El.abs, AE.mk.injEq, List.cons.injEq] at h; simp [h]))
        have HF : Hid (Fr [] W ZB) := F.out.trans HF0.out
        clear hC HMORE
        go_wp2
        exact hr.out _ HF.out HNE.out _ _ _ _ _ _ _ _ _ _ _ _ _ _ _ _ _ _ _ _ _ _ _ _ _ _ _ _ _ _ _ _ _ _ _ _ _ _ _ _ _ _ _ _ _ _ _ _ _ _ _
      subst h_x0
      by_cases h_y0 : y0 = y0'
      rotate_left
      · have HNE : Hid (¬ t.ops.map El.abs = u.ops.map El.abs) := HNE.out (fun h => h_y0 (by simp only [El.abs, AE.mk.injEq, List.cons.injEq] at h; simp [h]))
        have HF : Hid (Fr [] W ZB) := F.out.trans HF0.out
        clear hC HMORE
        go_wp2
        exact hr.out _ HF.out HNE.out _ _ _ _ _ _ _ _ _ _ _ _ _ _ _ _ _ _ _ _ _ _ _ _ _ _ _ _ _ _ _ _ _ _ _ _ _ _ _ _ _ _ _ _ _ _ _ _ _ _ _
      subst h_y0
      by_cases h_y1 : y1 = y1'
      rotate_left
      · have HNE : Hid (¬ t.ops.map El.abs = u.ops.map El.abs) := HNE.out (fun h => h_y1 (by simp only [El.abs, AE.mk.injEq, List.cons.injEq] at h; simp [h]))
        have HF : Hid (Fr [] W ZB) := F.out.trans HF0.out
        clear hC HMORE
        go_wp2
        exact hr.out _ HF.out HNE.out _ _ _ _ _ _ _ _ _ _ _ _ _ _ _ _ _ _ _ _ _ _ _ _ _ _ _ _ _ _ _ _ _ _ _ _ _ _ _ _ _ _ _ _ _ _ _ _ _ _ _
      subst h_y1
      by_cases h_y2 : y2 = y2'
      rotate_left
      · have HNE : Hid (¬ t.ops.map El.abs = u.ops.map El.abs) := HNE.out (fun h => h_y2 (by simp only [El.abs, AE.mk.injEq, List.cons.injEq] at h; simp [h]))
        have HF : Hid (Fr [] W ZB) := F.out.trans HF0.out
        clear hC HMORE
        go_wp2
        exact hr.out _ HF.out HNE.out _ _ _ _ _ _ _ _ _ _ _ _ _ _ _ _ _ _ _ _ _ _ _ _ _ _ _ _ _ _ _ _ _ _ _ _ _ _ _ _ _ _ _ _ _ _ _ _ _ _ _
      subst h_y2
      have HM : Hid (l = l' → (t.ops.map El.abs).take (p + 1) = (u.ops.map El.abs).take (p + 1)) := fun h => HMORE.out (by rw [h]; rfl)
      have HN2 : Hid (¬ l = l' → ¬ t.ops.map El.abs = u.ops.map El.abs) := fun h => HNE.out (fun q => h (by simp only [El.abs, AE.mk.injEq, List.cons.injEq] at q; simp [q]))
      clear HMORE HNE
      by_cases hl : l = l'
      · rw [decide_eq_true hl] at hC
        have HMORE : Hid ((t.ops.map El.abs).take (p + 1) = (u.ops.map El.abs).take (p + 1)) := HM.out hl
        clear HM HN2 hl
        go_wp2_with (go_at_call 49; refine hC.mono ?_; rintro e w' ⟨rfl, hS⟩)
        have HF : Hid (Fr [] W w') := F.out.trans (HF0.out.trans hS)
        clear hC hS
        go_wp2
        go_roundw
        case rel => exact ⟨p + 1, hlt, by go_num, HF.out, HMORE.out⟩
        case measure => simp [intOf]; omega
      · rw [decide_eq_false hl] at hC
        have HNE : Hid (¬ t.ops.map El.abs = u.ops.map El.abs) := HN2.out hl
        clear HM HN2 hl
        go_wp2_with (go_at_call 49; refine hC.mono ?_; rintro e w' ⟨rfl, hS⟩)
        have HF : Hid (Fr [] W w') := F.out.trans (HF0.out.trans hS)
        clear hC hS
        go_wp2
        exact hr.out _ HF.out HNE.out _ _ _ _ _ _ _ _ _ _ _ _ _ _ _ _ _ _ _ _ _ _ _ _ _ _ _ _ _ _ _ _ _ _ _ _ _ _ _ _ _ _ _ _ _ _ _ _ _ _ _
    · obtain rfl : p = t.ops.length := by omega
      have HEQ : t.ops.map El.abs = u.ops.map El.abs := by
        have h := FF.out.2
        rw [List.take_of_length_le (by simp), List.take_of_length_le (by simp only [List.length_map]; rw [HN.out]; exact Nat.le_refl _)] at h
        exact h
      go_wp2
      exact h.out wr F.out HEQ _ _ _ _ _ _ _ _ _ _ _ _ _ _ _ _ _ _ _ _ _ _ _ _ _ _ _ _ _ _ _ _ _ _ _ _ _ _ _ _ _ _ _ _ _ _ _ _ _ _ _
end Go.Proofs.YtkogfgbgmifcnaaDoor
