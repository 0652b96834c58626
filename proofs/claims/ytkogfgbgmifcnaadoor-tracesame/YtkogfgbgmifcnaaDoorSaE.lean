/-
  Traces held against each other by the document: their inputs; condition: they lie as told.
-/
import Derived.Test.YtkogfgbgmifcnaaDoorSaD
namespace Go.Proofs.YtkogfgbgmifcnaaDoor
open Go.RowKit
set_option linter.unusedVariables false
set_option linter.unusedSimpArgs false

set_option maxRecDepth 100000 in
set_option maxHeartbeats 16000000 in
theorem same22a {W : World} {B T1 T2 : Nat} {t u : Tr} (HT : Hid (Tw W B T1 T2 t u)) (HN : Hid (u.ins.length = t.ins.length)) 
    {Q : Exit → Act → World → Prop} {u0 u1 u4 u5 u6 u7 u8 u9 u10 u11 u12 u13 u14 u15 u16 u17 u18 u19 u20 u21 u22 u23 u24 u25 u26 u27 u28 u29 u30 u31 u32 u33 u34 u35 u36 u37 u38 u39 u40 u41 u42 u43 u44 u45 u46 u47 u48 u49 u50 u51 u52 u53 u54 u55 u56 u57 u58 u59 u60 u61 u62 u63 u64 u65 u66 u67 u68 u69 u70 u71 u72 u73 u74 u75 u76 u77 u80 u81 u82 u83 u84 u85 u86 u87 u88 u89 u90 u91 u92 u93 u94 u95 u96 u97 u98 u99 u100 u101 u102 u103 u104 u105 u106 u107 u108 u109 u110 u111 u112 u113 u114 u115 u116 u117 u118 u119 u120 u121 u122 u123 u124 u125 u126 u127 u128 u129 u130 u131 u132 u133 u134 u135 u136 u137 u138 u139 u140 u141 u142 u143 u144 u145 u146 u147 u148 u149 u150 u151 u152 u153 u154 u155 u156 u157 u158 u159 u160 u161 u162 u163 u164 u165 u166 u167 u168 u169 u170 u171 u172 u173 u174 u175 u176 u177 u178 u179 u180 u181 u182 u183 u184 u185 u186 u187 u188 u189 u190 u191 u192 u193 u194 u195 u196 u197 u198 u199 u200 u201 u202 u203 u204 u205 u206 u207 u208 u209 u210 u211 u212 u213 u214 u215 u216 u217 u218 u219 u220 u221 u222 u223 u224 u225 u226 u227 u228 u229 u230 u231 : Value}
    (h : Hid (∀ W', Fr [] W W' → t.ins.map id = u.ins.map id → ∀ n4 n5 n80 n81 n82 n83 n84 n85 n86 n87 n88 n89 n90 n91 n92 n93, Q .normal { tmps := #[u0, u1, .pointer (some ⟨T1, 0, none⟩), .pointer (some ⟨T2, 0, none⟩), n4, n5, u6, u7, u8, u9, u10, u11, u12, u13, u14, u15, u16, u17, u18, u19, u20, u21, u22, u23, u24, u25, u26, u27, u28, u29, u30, u31, u32, u33, u34, u35, u36, u37, u38, u39, u40, u41, u42, u43, u44, u45, u46, u47, u48, u49, u50, u51, u52, u53, u54, u55, u56, u57, u58, u59, u60, u61, u62, u63, u64, u65, u66, u67, u68, u69, u70, u71, u72, u73, u74, u75, u76, u77, .int .i64 (t.ins.length : Nat), .int .i64 (t.ins.length : Nat), n80, n81, n82, n83, n84, n85, n86, n87, n88, n89, n90, n91, n92, n93, u94, u95, u96, u97, u98, u99, u100, u101, u102, u103, u104, u105, u106, u107, u108, u109, u110, u111, u112, u113, u114, u115, u116, u117, u118, u119, u120, u121, u122, u123, u124, u125, u126, u127, u128, u129, u130, u131, u132, u133, u134, u135, u136, u137, u138, u139, u140, u141, u142, u143, u144, u145, u146, u147, u148, u149, u150, u151, u152, u153, u154, u155, u156, u157, u158, u159, u160, u161, u162, u163, u164, u165, u166, u167, u168, u169, u170, u171, u172, u173, u174, u175, u176, u177, u178, u179, u180, u181, u182, u183, u184, u185, u186, u187, u188, u189, u190, u191, u192, u193, u194, u195, u196, u197, u198, u199, u200, u201, u202, u203, u204, u205, u206, u207, u208, u209, u210, u211, u212, u213, u214, u215, u216, u217, u218, u219, u220, u221, u222, u223, u224, u225, u226, u227, u228, u229, u230, u231], defers := [] } W'))
    (hr : Hid (∀ W', Fr [] W W' → ¬ (t.ins.map id = u.ins.map id) → ∀ n5 n80 n81 n82 n83 n84 n85 n86 n87 n88 n89 n90 n91 n92 n93 n79, Q .ret { tmps := #[u0, u1, .pointer (some ⟨T1, 0, none⟩), .pointer (some ⟨T2, 0, none⟩), .bool false, n5, u6, u7, u8, u9, u10, u11, u12, u13, u14, u15, u16, u17, u18, u19, u20, u21, u22, u23, u24, u25, u26, u27, u28, u29, u30, u31, u32, u33, u34, u35, u36, u37, u38, u39, u40, u41, u42, u43, u44, u45, u46, u47, u48, u49, u50, u51, u52, u53, u54, u55, u56, u57, u58, u59, u60, u61, u62, u63, u64, u65, u66, u67, u68, u69, u70, u71, u72, u73, u74, u75, u76, u77, .int .i64 (t.ins.length : Nat), n79, n80, n81, n82, n83, n84, n85, n86, n87, n88, n89, n90, n91, n92, n93, u94, u95, u96, u97, u98, u99, u100, u101, u102, u103, u104, u105, u106, u107, u108, u109, u110, u111, u112, u113, u114, u115, u116, u117, u118, u119, u120, u121, u122, u123, u124, u125, u126, u127, u128, u129, u130, u131, u132, u133, u134, u135, u136, u137, u138, u139, u140, u141, u142, u143, u144, u145, u146, u147, u148, u149, u150, u151, u152, u153, u154, u155, u156, u157, u158, u159, u160, u161, u162, u163, u164, u165, u166, u167, u168, u169, u170, u171, u172, u173, u174, u175, u176, u177, u178, u179, u180, u181, u182, u183, u184, u185, u186, u187, u188, u189, u190, u191, u192, u193, u194, u195, u196, u197, u198, u199, u200, u201, u202, u203, u204, u205, u206, u207, u208, u209, u210, u211, u212, u213, u214, u215, u216, u217, u218, u219, u220, u221, u222, u223, u224, u225, u226, u227, u228, u229, u230, u231], defers := [] } W')) :
    (sub Tryd.f22 [1, 1, 0, 1, 0]).wp Tryd.prog (Exit.inBlock 0 Q) { tmps := #[u0, u1, .pointer (some ⟨T1, 0, none⟩), .pointer (some ⟨T2, 0, none⟩), u4, u5, u6, u7, u8, u9, u10, u11, u12, u13, u14, u15, u16, u17, u18, u19, u20, u21, u22, u23, u24, u25, u26, u27, u28, u29, u30, u31, u32, u33, u34, u35, u36, u37, u38, u39, u40, u41, u42, u43, u44, u45, u46, u47, u48, u49, u50, u51, u52, u53, u54, u55, u56, u57, u58, u59, u60, u61, u62, u63, u64, u65, u66, u67, u68, u69, u70, u71, u72, u73, u74, u75, u76, u77, .int .i64 (t.ins.length : Nat), .int .i64 0, u80, u81, u82, u83, u84, u85, u86, u87, u88, u89, u90, u91, u92, u93, u94, u95, u96, u97, u98, u99, u100, u101, u102, u103, u104, u105, u106, u107, u108, u109, u110, u111, u112, u113, u114, u115, u116, u117, u118, u119, u120, u121, u122, u123, u124, u125, u126, u127, u128, u129, u130, u131, u132, u133, u134, u135, u136, u137, u138, u139, u140, u141, u142, u143, u144, u145, u146, u147, u148, u149, u150, u151, u152, u153, u154, u155, u156, u157, u158, u159, u160, u161, u162, u163, u164, u165, u166, u167, u168, u169, u170, u171, u172, u173, u174, u175, u176, u177, u178, u179, u180, u181, u182, u183, u184, u185, u186, u187, u188, u189, u190, u191, u192, u193, u194, u195, u196, u197, u198, u199, u200, u201, u202, u203, u204, u205, u206, u207, u208, u209, u210, u211, u212, u213, u214, u215, u216, u217, u218, u219, u220, u221, u222, u223, u224, u225, u226, u227, u228, u229, u230, u231], defers := [] } W := by
  have hnI : (t.ins.length : Int) ≤ 140737488355328 := by have := HT.out.o1.ins.fit; omega
  have F0 : Hid (Fr [] W W) := Fr.refl _ _
  dsimp only [sub, nav, kid, Tryd.f22, Option.getD, if_true, if_false]
  go_wp2
  go_loopw [79] (fun i wr => ∃ p : Nat, p ≤ t.ins.length ∧ i = .int .i64 p ∧ Hid (Fr [] W wr ∧ (t.ins.map id).take p = (u.ins.map id).take p)) (fun i _ => t.ins.length - (intOf i).toNat)
  case atStart => exact ⟨0, Nat.zero_le _, rfl, F0.out, rfl⟩
  case round =>
    obtain ⟨p, hp, rfl, FF⟩ := hrel
    have F : Hid (Fr [] W wr) := FF.out.1
    by_cases hlt : p < t.ins.length
    · have hpI : (p : Int) < t.ins.length := by omega
      have HTw : Hid (Tw wr B T1 T2 t u) := HT.out.fr F.out
      obtain ⟨x, hx⟩ : ∃ x, t.ins[p]? = some x := ⟨_, List.getElem?_eq_getElem hlt⟩
      obtain ⟨y, hy⟩ : ∃ y, u.ins[p]? = some y := ⟨_, List.getElem?_eq_getElem (by rw [HN.out]; exact hlt)⟩
      obtain ⟨b, o, e1, c1, _⟩ := HTw.out.o1.ins.cell p (.int .i64 x) (by simp [hx])
      obtain ⟨b2, o2, e2, c2, _⟩ := HTw.out.o2.ins.cell p (.int .i64 y) (by simp [hy])
      have s1 := at_cells HTw.out.b1 12 t.at_ins
      have s2 := at_cells HTw.out.b2 12 u.at_ins
      rw [e1] at s1
      rw [e2, HN.out] at s2
      have d1 : ∀ w', Fr [] wr w' → w'.cell? ⟨b, o + p, none⟩ = some (.int .i64 x) := fun w' f => f.cell1 c1 (by simp)
      have d2 : ∀ w', Fr [] wr w' → w'.cell? ⟨b2, o2 + p, none⟩ = some (.int .i64 y) := fun w' f => f.cell1 c2 (by simp)
      have g1 : ∀ w', Fr [] wr w' → w'.cell? ⟨T1, 12, none⟩ = some (.slice (some ⟨b, o, none⟩) t.ins.length t.ic) := fun w' f => f.cell1 s1 (by simp)
      have g2 : ∀ w', Fr [] wr w' → w'.cell? ⟨T2, 12, none⟩ = some (.slice (some ⟨b2, o2, none⟩) t.ins.length u.ic) := fun w' f => f.cell1 s2 (by simp)
      have HX : Hid ((t.ins.map id)[p]? = some x ∧ (u.ins.map id)[p]? = some y) := ⟨by simp [hx], by simp [hy]⟩
      clear c1 c2 s1 s2 hx hy e1 e2
      go_upto_region 6 with fail
      refine reg_in (fun w' => Fr [] wr w') ?_
      have hS : Fr [] wr wr.drew := (Fr.refl _ _).drew
      generalize wr.drew = Y at *
      by_cases hxy : x = y
      · have HMORE : Hid ((t.ins.map id).take (p + 1) = (u.ins.map id).take (p + 1)) := take_more FF.out.2 HX.out.1 (by rw [hxy]; exact HX.out.2)
        subst hxy
        refine tk 0 (some 82) (.pointer (some ⟨T1, 12, none⟩)) rfl rfl (Or.inl ⟨rfl, fun wq hSq => by first | rfl | go_simp⟩) (by decide +kernel) hS ?_
        simp only [Act.put, List.setIfInBounds_toArray, List.set_cons_zero, List.set_cons_succ]
        refine tk 1 (some 83) (.slice (some ⟨b, o, none⟩) t.ins.length t.ic) rfl rfl (Or.inl ⟨rfl, fun wq hSq => by (have q := g1 wq hSq; go_simp)⟩) (by decide +kernel) hS ?_
        simp only [Act.put, List.setIfInBounds_toArray, List.set_cons_zero, List.set_cons_succ]
        refine tk 2 (some 84) (.int .i64 (p : Int)) rfl rfl (Or.inl ⟨rfl, fun wq hSq => by first | rfl | go_simp⟩) (by decide +kernel) hS ?_
        simp only [Act.put, List.setIfInBounds_toArray, List.set_cons_zero, List.set_cons_succ]
        refine tk 3 (some 85) (.pointer (some ⟨b, o + p, none⟩)) rfl rfl (Or.inl ⟨rfl, fun wq hSq => by go_simp⟩) (by decide +kernel) hS ?_
        simp only [Act.put, List.setIfInBounds_toArray, List.set_cons_zero, List.set_cons_succ]
        refine tk 4 (some 86) (.int .i64 x) rfl rfl (Or.inl ⟨rfl, fun wq hSq => by (have q := d1 wq hSq; go_simp)⟩) (by decide +kernel) hS ?_
        simp only [Act.put, List.setIfInBounds_toArray, List.set_cons_zero, List.set_cons_succ]
        refine tk 5 (some 87) (.pointer (some ⟨T2, 12, none⟩)) rfl rfl (Or.inl ⟨rfl, fun wq hSq => by first | rfl | go_simp⟩) (by decide +kernel) hS ?_
        simp only [Act.put, List.setIfInBounds_toArray, List.set_cons_zero, List.set_cons_succ]
        refine tk 6 (some 88) (.slice (some ⟨b2, o2, none⟩) t.ins.length u.ic) rfl rfl (Or.inl ⟨rfl, fun wq hSq => by (have q := g2 wq hSq; go_simp)⟩) (by decide +kernel) hS ?_
        simp only [Act.put, List.setIfInBounds_toArray, List.set_cons_zero, List.set_cons_succ]
        refine tk 7 (some 89) (.int .i64 (p : Int)) rfl rfl (Or.inl ⟨rfl, fun wq hSq => by first | rfl | go_simp⟩) (by decide +kernel) hS ?_
        simp only [Act.put, List.setIfInBounds_toArray, List.set_cons_zero, List.set_cons_succ]
        refine tk 8 (some 90) (.pointer (some ⟨b2, o2 + p, none⟩)) rfl rfl (Or.inl ⟨rfl, fun wq hSq => by go_simp⟩) (by decide +kernel) hS ?_
        simp only [Act.put, List.setIfInBounds_toArray, List.set_cons_zero, List.set_cons_succ]
        refine tk 9 (some 91) (.int .i64 x) rfl rfl (Or.inl ⟨rfl, fun wq hSq => by (have q := d2 wq hSq; go_simp)⟩) (by decide +kernel) hS ?_
        simp only [Act.put, List.setIfInBounds_toArray, List.set_cons_zero, List.set_cons_succ]
        refine tk 10 (some 92) (.bool false) rfl rfl (Or.inl ⟨rfl, fun wq hSq => by go_simp⟩) (by decide +kernel) hS ?_
        simp only [Act.put, List.setIfInBounds_toArray, List.set_cons_zero, List.set_cons_succ]
        refine wpAnyH_done (by decide +kernel) ?_ _
        refine plain_end ?_
        have HF : Hid (Fr [] W Y) := F.out.trans hS
        clear d1 d2 g1 g2 hS
        go_wp2
        go_roundw
        case rel => exact ⟨p + 1, hlt, by go_num, HF.out, HMORE.out⟩
        case measure => simp [intOf]; omega
      · have HNE : Hid (¬ t.ins.map id = u.ins.map id) := fun h => hxy (by have := HX.out.1; rw [h] at this; exact Option.some.inj (this.symm.trans HX.out.2))
        refine tk 0 (some 82) (.pointer (some ⟨T1, 12, none⟩)) rfl rfl (Or.inl ⟨rfl, fun wq hSq => by first | rfl | go_simp⟩) (by decide +kernel) hS ?_
        simp only [Act.put, List.setIfInBounds_toArray, List.set_cons_zero, List.set_cons_succ]
        refine tk 1 (some 83) (.slice (some ⟨b, o, none⟩) t.ins.length t.ic) rfl rfl (Or.inl ⟨rfl, fun wq hSq => by (have q := g1 wq hSq; go_simp)⟩) (by decide +kernel) hS ?_
        simp only [Act.put, List.setIfInBounds_toArray, List.set_cons_zero, List.set_cons_succ]
        refine tk 2 (some 84) (.int .i64 (p : Int)) rfl rfl (Or.inl ⟨rfl, fun wq hSq => by first | rfl | go_simp⟩) (by decide +kernel) hS ?_
        simp only [Act.put, List.setIfInBounds_toArray, List.set_cons_zero, List.set_cons_succ]
        refine tk 3 (some 85) (.pointer (some ⟨b, o + p, none⟩)) rfl rfl (Or.inl ⟨rfl, fun wq hSq => by go_simp⟩) (by decide +kernel) hS ?_
        simp only [Act.put, List.setIfInBounds_toArray, List.set_cons_zero, List.set_cons_succ]
        refine tk 4 (some 86) (.int .i64 x) rfl rfl (Or.inl ⟨rfl, fun wq hSq => by (have q := d1 wq hSq; go_simp)⟩) (by decide +kernel) hS ?_
        simp only [Act.put, List.setIfInBounds_toArray, List.set_cons_zero, List.set_cons_succ]
        refine tk 5 (some 87) (.pointer (some ⟨T2, 12, none⟩)) rfl rfl (Or.inl ⟨rfl, fun wq hSq => by first | rfl | go_simp⟩) (by decide +kernel) hS ?_
        simp only [Act.put, List.setIfInBounds_toArray, List.set_cons_zero, List.set_cons_succ]
        refine tk 6 (some 88) (.slice (some ⟨b2, o2, none⟩) t.ins.length u.ic) rfl rfl (Or.inl ⟨rfl, fun wq hSq => by (have q := g2 wq hSq; go_simp)⟩) (by decide +kernel) hS ?_
        simp only [Act.put, List.setIfInBounds_toArray, List.set_cons_zero, List.set_cons_succ]
        refine tk 7 (some 89) (.int .i64 (p : Int)) rfl rfl (Or.inl ⟨rfl, fun wq hSq => by first | rfl | go_simp⟩) (by decide +kernel) hS ?_
        simp only [Act.put, List.setIfInBounds_toArray, List.set_cons_zero, List.set_cons_succ]
        refine tk 8 (some 90) (.pointer (some ⟨b2, o2 + p, none⟩)) rfl rfl (Or.inl ⟨rfl, fun wq hSq => by go_simp⟩) (by decide +kernel) hS ?_
        simp only [Act.put, List.setIfInBounds_toArray, List.set_cons_zero, List.set_cons_succ]
        refine tk 9 (some 91) (.int .i64 y) rfl rfl (Or.inl ⟨rfl, fun wq hSq => by (have q := d2 wq hSq; go_simp)⟩) (by decide +kernel) hS ?_
        simp only [Act.put, List.setIfInBounds_toArray, List.set_cons_zero, List.set_cons_succ]
        refine tk 10 (some 92) (.bool true) rfl rfl (Or.inl ⟨rfl, fun wq hSq => by go_simp⟩) (by decide +kernel) hS ?_
        simp only [Act.put, List.setIfInBounds_toArray, List.set_cons_zero, List.set_cons_succ]
        refine wpAnyH_done (by decide +kernel) ?_ _
        refine plain_end ?_
        have HF : Hid (Fr [] W Y) := F.out.trans hS
        clear d1 d2 g1 g2 hS
        go_wp2
        exact hr.out _ HF.out HNE.out _ _ _ _ _ _ _ _ _ _ _ _ _ _ _ _
    · obtain rfl : p = t.ins.length := by omega
      have HEQ : t.ins.map id = u.ins.map id := by
        have h := FF.out.2
        rw [List.take_of_length_le (by simp), List.take_of_length_le (by simp only [List.length_map]; rw [HN.out]; exact Nat.le_refl _)] at h
        exact h
      go_wp2
      exact h.out wr F.out HEQ _ _ _ _ _ _ _ _ _ _ _ _ _ _ _ _
end Go.Proofs.YtkogfgbgmifcnaaDoor
