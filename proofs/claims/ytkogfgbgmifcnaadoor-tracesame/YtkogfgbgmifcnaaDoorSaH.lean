/-
  Traces held against each other by the document: their virtual things; condition: they lie as told.
-/
import Derived.Test.YtkogfgbgmifcnaaDoorSaD
namespace Go.Proofs.YtkogfgbgmifcnaaDoor
open Go.RowKit
set_option linter.unusedVariables false
set_option linter.unusedSimpArgs false

set_option maxRecDepth 100000 in
set_option maxHeartbeats 16000000 in
theorem same22d {W : World} {B T1 T2 : Nat} {t u : Tr} (HT : Hid (Tw W B T1 T2 t u)) (HN : Hid (u.virts.length = t.virts.length)) (HW : Hid ((∀ e ∈ t.virts, ∀ s ∈ e.l, s.w) ∧ (∀ e ∈ u.virts, ∀ s ∈ e.l, s.w)))
    {Q : Exit → Act → World → Prop} {u0 u1 u4 u5 u6 u7 u8 u9 u10 u11 u12 u13 u14 u15 u16 u17 u18 u19 u20 u21 u22 u23 u24 u25 u26 u27 u28 u29 u30 u31 u32 u33 u34 u35 u36 u37 u38 u39 u40 u41 u42 u43 u44 u45 u46 u47 u48 u49 u50 u51 u52 u53 u54 u55 u56 u57 u58 u59 u60 u61 u62 u63 u64 u65 u66 u67 u68 u69 u70 u71 u72 u73 u74 u75 u76 u77 u78 u79 u80 u81 u82 u83 u84 u85 u86 u87 u88 u89 u90 u91 u92 u93 u94 u95 u96 u97 u98 u99 u100 u101 u102 u103 u104 u105 u106 u107 u108 u109 u110 u111 u112 u113 u114 u115 u116 u117 u118 u119 u120 u121 u122 u123 u124 u125 u126 u127 u128 u129 u130 u131 u132 u133 u134 u135 u136 u137 u138 u139 u140 u141 u142 u143 u144 u145 u146 u147 u148 u149 u150 u151 u152 u153 u154 u155 u156 u157 u158 u159 u160 u161 u162 u163 u164 u165 u166 u167 u168 u169 u170 u171 u172 u173 u174 u175 u176 u177 u178 u179 u180 u181 u182 u183 u184 u185 u186 u187 u188 u189 u190 u191 u192 u193 u194 u195 u196 u197 u200 u201 u202 u203 u204 u205 u206 u207 u208 u209 u210 u211 u212 u213 u214 u215 u216 u217 u218 u219 u220 u221 u222 u223 u224 u225 u226 u227 u228 u229 u230 u231 : Value}
    (h : Hid (∀ W', Fr [] W W' → t.virts.map El.abs = u.virts.map El.abs → ∀ n4 n12 n200 n201 n202 n203 n204 n205 n206 n207 n208 n209 n210 n211 n212 n213 n214 n215 n216 n217 n218 n219 n220 n221 n222 n223 n224 n225 n226 n227 n228 n229 n230 n231, Q .normal { tmps := #[u0, u1, .pointer (some ⟨T1, 0, none⟩), .pointer (some ⟨T2, 0, none⟩), n4, u5, u6, u7, u8, u9, u10, u11, n12, u13, u14, u15, u16, u17, u18, u19, u20, u21, u22, u23, u24, u25, u26, u27, u28, u29, u30, u31, u32, u33, u34, u35, u36, u37, u38, u39, u40, u41, u42, u43, u44, u45, u46, u47, u48, u49, u50, u51, u52, u53, u54, u55, u56, u57, u58, u59, u60, u61, u62, u63, u64, u65, u66, u67, u68, u69, u70, u71, u72, u73, u74, u75, u76, u77, u78, u79, u80, u81, u82, u83, u84, u85, u86, u87, u88, u89, u90, u91, u92, u93, u94, u95, u96, u97, u98, u99, u100, u101, u102, u103, u104, u105, u106, u107, u108, u109, u110, u111, u112, u113, u114, u115, u116, u117, u118, u119, u120, u121, u122, u123, u124, u125, u126, u127, u128, u129, u130, u131, u132, u133, u134, u135, u136, u137, u138, u139, u140, u141, u142, u143, u144, u145, u146, u147, u148, u149, u150, u151, u152, u153, u154, u155, u156, u157, u158, u159, u160, u161, u162, u163, u164, u165, u166, u167, u168, u169, u170, u171, u172, u173, u174, u175, u176, u177, u178, u179, u180, u181, u182, u183, u184, u185, u186, u187, u188, u189, u190, u191, u192, u193, u194, u195, u196, u197, .int .i64 (t.virts.length : Nat), .int .i64 (t.virts.length : Nat), n200, n201, n202, n203, n204, n205, n206, n207, n208, n209, n210, n211, n212, n213, n214, n215, n216, n217, n218, n219, n220, n221, n222, n223, n224, n225, n226, n227, n228, n229, n230, n231], defers := [] } W'))
    (hr : Hid (∀ W', Fr [] W W' → ¬ (t.virts.map El.abs = u.virts.map El.abs) → ∀ n12 n200 n201 n202 n203 n204 n205 n206 n207 n208 n209 n210 n211 n212 n213 n214 n215 n216 n217 n218 n219 n220 n221 n222 n223 n224 n225 n226 n227 n228 n229 n230 n231 n199, Q .ret { tmps := #[u0, u1, .pointer (some ⟨T1, 0, none⟩), .pointer (some ⟨T2, 0, none⟩), .bool false, u5, u6, u7, u8, u9, u10, u11, n12, u13, u14, u15, u16, u17, u18, u19, u20, u21, u22, u23, u24, u25, u26, u27, u28, u29, u30, u31, u32, u33, u34, u35, u36, u37, u38, u39, u40, u41, u42, u43, u44, u45, u46, u47, u48, u49, u50, u51, u52, u53, u54, u55, u56, u57, u58, u59, u60, u61, u62, u63, u64, u65, u66, u67, u68, u69, u70, u71, u72, u73, u74, u75, u76, u77, u78, u79, u80, u81, u82, u83, u84, u85, u86, u87, u88, u89, u90, u91, u92, u93, u94, u95, u96, u97, u98, u99, u100, u101, u102, u103, u104, u105, u106, u107, u108, u109, u110, u111, u112, u113, u114, u115, u116, u117, u118, u119, u120, u121, u122, u123, u124, u125, u126, u127, u128, u129, u130, u131, u132, u133, u134, u135, u136, u137, u138, u139, u140, u141, u142, u143, u144, u145, u146, u147, u148, u149, u150, u151, u152, u153, u154, u155, u156, u157, u158, u159, u160, u161, u162, u163, u164, u165, u166, u167, u168, u169, u170, u171, u172, u173, u174, u175, u176, u177, u178, u179, u180, u181, u182, u183, u184, u185, u186, u187, u188, u189, u190, u191, u192, u193, u194, u195, u196, u197, .int .i64 (t.virts.length : Nat), n199, n200, n201, n202, n203, n204, n205, n206, n207, n208, n209, n210, n211, n212, n213, n214, n215, n216, n217, n218, n219, n220, n221, n222, n223, n224, n225, n226, n227, n228, n229, n230, n231], defers := [] } W')) :
    (sub Tryd.f22 [1, 1, 1, 1, 1, 0, 1, 0]).wp Tryd.prog (Exit.inBlock 6 Q) { tmps := #[u0, u1, .pointer (some ⟨T1, 0, none⟩), .pointer (some ⟨T2, 0, none⟩), u4, u5, u6, u7, u8, u9, u10, u11, u12, u13, u14, u15, u16, u17, u18, u19, u20, u21, u22, u23, u24, u25, u26, u27, u28, u29, u30, u31, u32, u33, u34, u35, u36, u37, u38, u39, u40, u41, u42, u43, u44, u45, u46, u47, u48, u49, u50, u51, u52, u53, u54, u55, u56, u57, u58, u59, u60, u61, u62, u63, u64, u65, u66, u67, u68, u69, u70, u71, u72, u73, u74, u75, u76, u77, u78, u79, u80, u81, u82, u83, u84, u85, u86, u87, u88, u89, u90, u91, u92, u93, u94, u95, u96, u97, u98, u99, u100, u101, u102, u103, u104, u105, u106, u107, u108, u109, u110, u111, u112, u113, u114, u115, u116, u117, u118, u119, u120, u121, u122, u123, u124, u125, u126, u127, u128, u129, u130, u131, u132, u133, u134, u135, u136, u137, u138, u139, u140, u141, u142, u143, u144, u145, u146, u147, u148, u149, u150, u151, u152, u153, u154, u155, u156, u157, u158, u159, u160, u161, u162, u163, u164, u165, u166, u167, u168, u169, u170, u171, u172, u173, u174, u175, u176, u177, u178, u179, u180, u181, u182, u183, u184, u185, u186, u187, u188, u189, u190, u191, u192, u193, u194, u195, u196, u197, .int .i64 (t.virts.length : Nat), .int .i64 0, u200, u201, u202, u203, u204, u205, u206, u207, u208, u209, u210, u211, u212, u213, u214, u215, u216, u217, u218, u219, u220, u221, u222, u223, u224, u225, u226, u227, u228, u229, u230, u231], defers := [] } W := by
  have hnI : (t.virts.length : Int) ≤ 140737488355328 := by have := HT.out.o1.virts.fit; omega
  have F0 : Hid (Fr [] W W) := Fr.refl _ _
  dsimp only [sub, nav, kid, Tryd.f22, Option.getD, if_true, if_false]
  go_wp2
  go_loopw [199] (fun i wr => ∃ p : Nat, p ≤ t.virts.length ∧ i = .int .i64 p ∧ Hid (Fr [] W wr ∧ (t.virts.map El.abs).take p = (u.virts.map El.abs).take p)) (fun i _ => t.virts.length - (intOf i).toNat)
  case atStart => exact ⟨0, Nat.zero_le _, rfl, F0.out, rfl⟩
  case round =>
    obtain ⟨p, hp, rfl, FF⟩ := hrel
    have F : Hid (Fr [] W wr) := FF.out.1
    by_cases hlt : p < t.virts.length
    · have hpI : (p : Int) < t.virts.length := by omega
      have HTw : Hid (Tw wr B T1 T2 t u) := HT.out.fr F.out
      obtain ⟨e, he⟩ : ∃ e, t.virts[p]? = some e := ⟨_, List.getElem?_eq_getElem hlt⟩
      obtain ⟨f, hf⟩ : ∃ f, u.virts[p]? = some f := ⟨_, List.getElem?_eq_getElem (by rw [HN.out]; exact hlt)⟩
      have ok1 := HTw.out.o1.virtl e (List.mem_of_getElem? he)
      have ok2 := HTw.out.o2.virtl f (List.mem_of_getElem? hf)
      have LW : Hid ((∀ s ∈ e.l, s.w) ∧ (∀ s ∈ f.l, s.w)) := ⟨HW.out.1 e (List.mem_of_getElem? he), HW.out.2 f (List.mem_of_getElem? hf)⟩
      obtain ⟨b, o, e1, r1, _⟩ := HTw.out.o1.virts.elem (f := El.cl) (fun x hx => El.cl_len (HTw.out.o1.virtl x hx)) (by omega) he
      obtain ⟨b2, o2, e2, r2, _⟩ := HTw.out.o2.virts.elem (f := El.cl) (fun x hx => El.cl_len (HTw.out.o2.virtl x hx)) (by omega) hf
      have s1 := at_cells HTw.out.b1 15 t.at_virts
      have s2 := at_cells HTw.out.b2 15 u.at_virts
      rw [e1] at s1
      rw [e2, HN.out] at s2
      have HMORE : Hid (e.abs = f.abs → (t.virts.map El.abs).take (p + 1) = (u.virts.map El.abs).take (p + 1)) := fun q => take_more FF.out.2 (x := e.abs) (by simp [he]) (by rw [q]; simp [hf])
      have HNE : Hid (¬ e.abs = f.abs → ¬ t.virts.map El.abs = u.virts.map El.abs) := fun q h => q (by
        have h1 : (t.virts.map El.abs)[p]? = some e.abs := by simp [he]
        have h2 : (u.virts.map El.abs)[p]? = some f.abs := by simp [hf]
        rw [h] at h1
        exact Option.some.inj (h1.symm.trans h2))
      obtain ⟨ep, eq, a, c, l⟩ := e
      obtain ⟨fp, fq, a', c', l'⟩ := f
      obtain ⟨x0, rfl⟩ := len1 ok1.hp
      obtain rfl := List.eq_nil_of_length_eq_zero ok1.hq
      obtain ⟨x0', rfl⟩ := len1 ok2.hp
      obtain rfl := List.eq_nil_of_length_eq_zero ok2.hq
      have L1 : Hid (SL wr B 51 a l.length c 4 32 (flatS l)) := ok1.sl
      have L2 : Hid (SL wr B 51 a' l'.length c' 4 32 (flatS l')) := ok2.sl
      have l1 : ∀ w', Fr [] wr w' → w'.rangeAt b (o + p * 2) [.int .i64 x0, .slice a l.length c] := fun w' f => range_fr r1 f
      have l2 : ∀ w', Fr [] wr w' → w'.rangeAt b2 (o2 + p * 2) [.int .i64 x0', .slice a' l'.length c'] := fun w' f => range_fr r2 f
      have g1 : ∀ w', Fr [] wr w' → w'.cell? ⟨T1, 15, none⟩ = some (.slice (some ⟨b, o, none⟩) t.virts.length t.vc) := fun w' f => f.cell1 s1 (by simp)
      have g2 : ∀ w', Fr [] wr w' → w'.cell? ⟨T2, 15, none⟩ = some (.slice (some ⟨b2, o2, none⟩) t.virts.length u.vc) := fun w' f => f.cell1 s2 (by simp)
      have d1 : ∀ w', Fr [] wr w' → w'.cell? ⟨b, o + p * 2, none⟩ = some (.int .i64 x0) := fun w' f => l1 w' f 0 _ rfl
      have d2 : ∀ w', Fr [] wr w' → w'.cell? ⟨b2, o2 + p * 2, none⟩ = some (.int .i64 x0') := fun w' f => l2 w' f 0 _ rfl
      have v1 : ∀ w', Fr [] wr w' → w'.cell? ⟨b, o + p * 2 + 1, none⟩ = some (.slice a l.length c) := fun w' f => l1 w' f 1 _ rfl
      have v2 : ∀ w', Fr [] wr w' → w'.cell? ⟨b2, o2 + p * 2 + 1, none⟩ = some (.slice a' l'.length c') := fun w' f => l2 w' f 1 _ rfl
      clear s1 s2 he hf e1 e2 ok1 ok2 r1 r2 l1 l2
      go_upto_region 26 with fail
      refine reg_in (fun w' => Fr [] wr w') ?_
      have hS : Fr [] wr wr.drew := (Fr.refl _ _).drew
      generalize wr.drew = Y at *
      by_cases hx0 : x0 = x0'
      rotate_left
      · have HNE : Hid (¬ t.virts.map El.abs = u.virts.map El.abs) := HNE.out (fun h => hx0 (by simp only [El.abs, AE.mk.injEq, List.cons.injEq] at h; simp [h]))
        clear HMORE
        refine tk 0 (some 202) (.pointer (some ⟨T1, 15, none⟩)) rfl rfl (Or.inl ⟨rfl, fun wq hSq => by first | rfl | go_simp⟩) (by decide +kernel) hS ?_
        simp only [Act.put, List.setIfInBounds_toArray, List.set_cons_zero, List.set_cons_succ]
        refine tk 1 (some 203) (.slice (some ⟨b, o, none⟩) t.virts.length t.vc) rfl rfl (Or.inl ⟨rfl, fun wq hSq => by (have q := g1 wq hSq; go_simp)⟩) (by decide +kernel) hS ?_
        simp only [Act.put, List.setIfInBounds_toArray, List.set_cons_zero, List.set_cons_succ]
        refine tk 2 (some 204) (.int .i64 (p : Int)) rfl rfl (Or.inl ⟨rfl, fun wq hSq => by first | rfl | go_simp⟩) (by decide +kernel) hS ?_
        simp only [Act.put, List.setIfInBounds_toArray, List.set_cons_zero, List.set_cons_succ]
        refine tk 3 (some 205) (.pointer (some ⟨b, o + p * 2, none⟩)) rfl rfl (Or.inl ⟨rfl, fun wq hSq => by go_simp⟩) (by decide +kernel) hS ?_
        simp only [Act.put, List.setIfInBounds_toArray, List.set_cons_zero, List.set_cons_succ]
        refine tk 4 (some 206) (.pointer (some ⟨b, o + p * 2, none⟩)) rfl rfl (Or.inl ⟨rfl, fun wq hSq => by go_simp⟩) (by decide +kernel) hS ?_
        simp only [Act.put, List.setIfInBounds_toArray, List.set_cons_zero, List.set_cons_succ]
        refine tk 5 (some 207) (.int .i64 x0) rfl rfl (Or.inl ⟨rfl, fun wq hSq => by (have q := d1 wq hSq; go_simp)⟩) (by decide +kernel) hS ?_
        simp only [Act.put, List.setIfInBounds_toArray, List.set_cons_zero, List.set_cons_succ]
        refine tk 6 (some 208) (.pointer (some ⟨T2, 15, none⟩)) rfl rfl (Or.inl ⟨rfl, fun wq hSq => by first | rfl | go_simp⟩) (by decide +kernel) hS ?_
        simp only [Act.put, List.setIfInBounds_toArray, List.set_cons_zero, List.set_cons_succ]
        refine tk 7 (some 209) (.slice (some ⟨b2, o2, none⟩) t.virts.length u.vc) rfl rfl (Or.inl ⟨rfl, fun wq hSq => by (have q := g2 wq hSq; go_simp)⟩) (by decide +kernel) hS ?_
        simp only [Act.put, List.setIfInBounds_toArray, List.set_cons_zero, List.set_cons_succ]
        refine tk 8 (some 210) (.int .i64 (p : Int)) rfl rfl (Or.inl ⟨rfl, fun wq hSq => by first | rfl | go_simp⟩) (by decide +kernel) hS ?_
        simp only [Act.put, List.setIfInBounds_toArray, List.set_cons_zero, List.set_cons_succ]
        refine tk 9 (some 211) (.pointer (some ⟨b2, o2 + p * 2, none⟩)) rfl rfl (Or.inl ⟨rfl, fun wq hSq => by go_simp⟩) (by decide +kernel) hS ?_
        simp only [Act.put, List.setIfInBounds_toArray, List.set_cons_zero, List.set_cons_succ]
        refine tk 10 (some 212) (.pointer (some ⟨b2, o2 + p * 2, none⟩)) rfl rfl (Or.inl ⟨rfl, fun wq hSq => by go_simp⟩) (by decide +kernel) hS ?_
        simp only [Act.put, List.setIfInBounds_toArray, List.set_cons_zero, List.set_cons_succ]
        refine tk 11 (some 213) (.int .i64 x0') rfl rfl (Or.inl ⟨rfl, fun wq hSq => by (have q := d2 wq hSq; go_simp)⟩) (by decide +kernel) hS ?_
        simp only [Act.put, List.setIfInBounds_toArray, List.set_cons_zero, List.set_cons_succ]
        refine tk 12 (some 214) (.bool true) rfl rfl (Or.inl ⟨rfl, fun wq hSq => by go_simp⟩) (by decide +kernel) hS ?_
        simp only [Act.put, List.setIfInBounds_toArray, List.set_cons_zero, List.set_cons_succ]
        refine tk 13 (some 215) (.bool true) rfl rfl (Or.inl ⟨rfl, fun wq hSq => by first | rfl | go_simp⟩) (by decide +kernel) hS ?_
        simp only [Act.put, List.setIfInBounds_toArray, List.set_cons_zero, List.set_cons_succ]
        refine tk 14 (some 216) (undef) rfl rfl ?_ (by decide +kernel) hS ?_
        · exact Or.inr ⟨rfl, rfl⟩
        simp only [Act.put, List.setIfInBounds_toArray, List.set_cons_zero, List.set_cons_succ]
        refine tk 15 (some 217) (undef) rfl rfl ?_ (by decide +kernel) hS ?_
        · exact Or.inr ⟨rfl, rfl⟩
        simp only [Act.put, List.setIfInBounds_toArray, List.set_cons_zero, List.set_cons_succ]
        refine tk 16 (some 218) (undef) rfl rfl ?_ (by decide +kernel) hS ?_
        · exact Or.inr ⟨rfl, rfl⟩
        simp only [Act.put, List.setIfInBounds_toArray, List.set_cons_zero, List.set_cons_succ]
        refine tk 17 (some 219) (undef) rfl rfl ?_ (by decide +kernel) hS ?_
        · exact Or.inr ⟨rfl, rfl⟩
        simp only [Act.put, List.setIfInBounds_toArray, List.set_cons_zero, List.set_cons_succ]
        refine tk 18 (some 220) (undef) rfl rfl ?_ (by decide +kernel) hS ?_
        · exact Or.inr ⟨rfl, rfl⟩
        simp only [Act.put, List.setIfInBounds_toArray, List.set_cons_zero, List.set_cons_succ]
        refine tk 19 (some 221) (undef) rfl rfl ?_ (by decide +kernel) hS ?_
        · exact Or.inr ⟨rfl, rfl⟩
        simp only [Act.put, List.setIfInBounds_toArray, List.set_cons_zero, List.set_cons_succ]
        refine tk 20 (some 222) (undef) rfl rfl ?_ (by decide +kernel) hS ?_
        · exact Or.inr ⟨rfl, rfl⟩
        simp only [Act.put, List.setIfInBounds_toArray, List.set_cons_zero, List.set_cons_succ]
        refine tk 21 (some 223) (undef) rfl rfl ?_ (by decide +kernel) hS ?_
        · exact Or.inr ⟨rfl, rfl⟩
        simp only [Act.put, List.setIfInBounds_toArray, List.set_cons_zero, List.set_cons_succ]
        refine tk 22 (some 224) (undef) rfl rfl ?_ (by decide +kernel) hS ?_
        · exact Or.inr ⟨rfl, rfl⟩
        simp only [Act.put, List.setIfInBounds_toArray, List.set_cons_zero, List.set_cons_succ]
        refine tk 23 (some 225) (undef) rfl rfl ?_ (by decide +kernel) hS ?_
        · exact Or.inr ⟨rfl, rfl⟩
        simp only [Act.put, List.setIfInBounds_toArray, List.set_cons_zero, List.set_cons_succ]
        refine tk 24 (some 226) (undef) rfl rfl ?_ (by decide +kernel) hS ?_
        · exact Or.inr ⟨rfl, rfl⟩
        simp only [Act.put, List.setIfInBounds_toArray, List.set_cons_zero, List.set_cons_succ]
        refine tk 25 (some 227) (undef) rfl rfl ?_ (by decide +kernel) hS ?_
        · exact Or.inr ⟨rfl, rfl⟩
        simp only [Act.put, List.setIfInBounds_toArray, List.set_cons_zero, List.set_cons_succ]
        refine tk 26 (some 228) (undef) rfl rfl ?_ (by decide +kernel) hS ?_
        · exact Or.inr ⟨rfl, rfl⟩
        simp only [Act.put, List.setIfInBounds_toArray, List.set_cons_zero, List.set_cons_succ]
        refine tk 27 (some 229) (undef) rfl rfl ?_ (by decide +kernel) hS ?_
        · exact Or.inr ⟨rfl, rfl⟩
        simp only [Act.put, List.setIfInBounds_toArray, List.set_cons_zero, List.set_cons_succ]
        refine tk 28 (some 230) (.bool true) rfl rfl (Or.inl ⟨rfl, fun wq hSq => by go_simp⟩) (by decide +kernel) hS ?_
        simp only [Act.put, List.setIfInBounds_toArray, List.set_cons_zero, List.set_cons_succ]
        refine wpAnyH_done (by decide +kernel) ?_ _
        refine plain_end ?_
        have HF : Hid (Fr [] W Y) := F.out.trans hS
        clear d1 d2 v1 v2 g1 g2 hS
        go_wp2
        exact hr.out _ HF.out HNE.out _ _ _ _ _ _ _ _ _ _ _ _ _ _ _ _ _ _ _ _ _ _ _ _ _ _ _ _ _ _ _ _ _ _
      subst hx0
      by_cases hl : l = l'
      · have HMORE : Hid ((t.virts.map El.abs).take (p + 1) = (u.virts.map El.abs).take (p + 1)) := HMORE.out (by rw [hl]; rfl)
        have hQ := decide_eq_true hl
        clear HNE hl
        refine tk 0 (some 202) (.pointer (some ⟨T1, 15, none⟩)) rfl rfl (Or.inl ⟨rfl, fun wq hSq => by first | rfl | go_simp⟩) (by decide +kernel) hS ?_
        simp only [Act.put, List.setIfInBounds_toArray, List.set_cons_zero, List.set_cons_succ]
        refine tk 1 (some 203) (.slice (some ⟨b, o, none⟩) t.virts.length t.vc) rfl rfl (Or.inl ⟨rfl, fun wq hSq => by (have q := g1 wq hSq; go_simp)⟩) (by decide +kernel) hS ?_
        simp only [Act.put, List.setIfInBounds_toArray, List.set_cons_zero, List.set_cons_succ]
        refine tk 2 (some 204) (.int .i64 (p : Int)) rfl rfl (Or.inl ⟨rfl, fun wq hSq => by first | rfl | go_simp⟩) (by decide +kernel) hS ?_
        simp only [Act.put, List.setIfInBounds_toArray, List.set_cons_zero, List.set_cons_succ]
        refine tk 3 (some 205) (.pointer (some ⟨b, o + p * 2, none⟩)) rfl rfl (Or.inl ⟨rfl, fun wq hSq => by go_simp⟩) (by decide +kernel) hS ?_
        simp only [Act.put, List.setIfInBounds_toArray, List.set_cons_zero, List.set_cons_succ]
        refine tk 4 (some 206) (.pointer (some ⟨b, o + p * 2, none⟩)) rfl rfl (Or.inl ⟨rfl, fun wq hSq => by go_simp⟩) (by decide +kernel) hS ?_
        simp only [Act.put, List.setIfInBounds_toArray, List.set_cons_zero, List.set_cons_succ]
        refine tk 5 (some 207) (.int .i64 x0) rfl rfl (Or.inl ⟨rfl, fun wq hSq => by (have q := d1 wq hSq; go_simp)⟩) (by decide +kernel) hS ?_
        simp only [Act.put, List.setIfInBounds_toArray, List.set_cons_zero, List.set_cons_succ]
        refine tk 6 (some 208) (.pointer (some ⟨T2, 15, none⟩)) rfl rfl (Or.inl ⟨rfl, fun wq hSq => by first | rfl | go_simp⟩) (by decide +kernel) hS ?_
        simp only [Act.put, List.setIfInBounds_toArray, List.set_cons_zero, List.set_cons_succ]
        refine tk 7 (some 209) (.slice (some ⟨b2, o2, none⟩) t.virts.length u.vc) rfl rfl (Or.inl ⟨rfl, fun wq hSq => by (have q := g2 wq hSq; go_simp)⟩) (by decide +kernel) hS ?_
        simp only [Act.put, List.setIfInBounds_toArray, List.set_cons_zero, List.set_cons_succ]
        refine tk 8 (some 210) (.int .i64 (p : Int)) rfl rfl (Or.inl ⟨rfl, fun wq hSq => by first | rfl | go_simp⟩) (by decide +kernel) hS ?_
        simp only [Act.put, List.setIfInBounds_toArray, List.set_cons_zero, List.set_cons_succ]
        refine tk 9 (some 211) (.pointer (some ⟨b2, o2 + p * 2, none⟩)) rfl rfl (Or.inl ⟨rfl, fun wq hSq => by go_simp⟩) (by decide +kernel) hS ?_
        simp only [Act.put, List.setIfInBounds_toArray, List.set_cons_zero, List.set_cons_succ]
        refine tk 10 (some 212) (.pointer (some ⟨b2, o2 + p * 2, none⟩)) rfl rfl (Or.inl ⟨rfl, fun wq hSq => by go_simp⟩) (by decide +kernel) hS ?_
        simp only [Act.put, List.setIfInBounds_toArray, List.set_cons_zero, List.set_cons_succ]
        refine tk 11 (some 213) (.int .i64 x0) rfl rfl (Or.inl ⟨rfl, fun wq hSq => by (have q := d2 wq hSq; go_simp)⟩) (by decide +kernel) hS ?_
        simp only [Act.put, List.setIfInBounds_toArray, List.set_cons_zero, List.set_cons_succ]
        refine tk 12 (some 214) (.bool false) rfl rfl (Or.inl ⟨rfl, fun wq hSq => by go_simp⟩) (by decide +kernel) hS ?_
        simp only [Act.put, List.setIfInBounds_toArray, List.set_cons_zero, List.set_cons_succ]
        refine tk 13 (some 215) (.bool false) rfl rfl (Or.inl ⟨rfl, fun wq hSq => by first | rfl | go_simp⟩) (by decide +kernel) hS ?_
        simp only [Act.put, List.setIfInBounds_toArray, List.set_cons_zero, List.set_cons_succ]
        refine tk 14 (some 216) (.pointer (some ⟨T1, 15, none⟩)) rfl rfl (Or.inl ⟨rfl, fun wq hSq => by first | rfl | go_simp⟩) (by decide +kernel) hS ?_
        simp only [Act.put, List.setIfInBounds_toArray, List.set_cons_zero, List.set_cons_succ]
        refine tk 15 (some 217) (.slice (some ⟨b, o, none⟩) t.virts.length t.vc) rfl rfl (Or.inl ⟨rfl, fun wq hSq => by (have q := g1 wq hSq; go_simp)⟩) (by decide +kernel) hS ?_
        simp only [Act.put, List.setIfInBounds_toArray, List.set_cons_zero, List.set_cons_succ]
        refine tk 16 (some 218) (.int .i64 (p : Int)) rfl rfl (Or.inl ⟨rfl, fun wq hSq => by first | rfl | go_simp⟩) (by decide +kernel) hS ?_
        simp only [Act.put, List.setIfInBounds_toArray, List.set_cons_zero, List.set_cons_succ]
        refine tk 17 (some 219) (.pointer (some ⟨b, o + p * 2, none⟩)) rfl rfl (Or.inl ⟨rfl, fun wq hSq => by go_simp⟩) (by decide +kernel) hS ?_
        simp only [Act.put, List.setIfInBounds_toArray, List.set_cons_zero, List.set_cons_succ]
        refine tk 18 (some 220) (.pointer (some ⟨b, o + p * 2 + 1, none⟩)) rfl rfl (Or.inl ⟨rfl, fun wq hSq => by go_simp⟩) (by decide +kernel) hS ?_
        simp only [Act.put, List.setIfInBounds_toArray, List.set_cons_zero, List.set_cons_succ]
        refine tk 19 (some 221) (.slice a l.length c) rfl rfl (Or.inl ⟨rfl, fun wq hSq => by (have q := v1 wq hSq; go_simp)⟩) (by decide +kernel) hS ?_
        simp only [Act.put, List.setIfInBounds_toArray, List.set_cons_zero, List.set_cons_succ]
        refine tk 20 (some 222) (.pointer (some ⟨T2, 15, none⟩)) rfl rfl (Or.inl ⟨rfl, fun wq hSq => by first | rfl | go_simp⟩) (by decide +kernel) hS ?_
        simp only [Act.put, List.setIfInBounds_toArray, List.set_cons_zero, List.set_cons_succ]
        refine tk 21 (some 223) (.slice (some ⟨b2, o2, none⟩) t.virts.length u.vc) rfl rfl (Or.inl ⟨rfl, fun wq hSq => by (have q := g2 wq hSq; go_simp)⟩) (by decide +kernel) hS ?_
        simp only [Act.put, List.setIfInBounds_toArray, List.set_cons_zero, List.set_cons_succ]
        refine tk 22 (some 224) (.int .i64 (p : Int)) rfl rfl (Or.inl ⟨rfl, fun wq hSq => by first | rfl | go_simp⟩) (by decide +kernel) hS ?_
        simp only [Act.put, List.setIfInBounds_toArray, List.set_cons_zero, List.set_cons_succ]
        refine tk 23 (some 225) (.pointer (some ⟨b2, o2 + p * 2, none⟩)) rfl rfl (Or.inl ⟨rfl, fun wq hSq => by go_simp⟩) (by decide +kernel) hS ?_
        simp only [Act.put, List.setIfInBounds_toArray, List.set_cons_zero, List.set_cons_succ]
        refine tk 24 (some 226) (.pointer (some ⟨b2, o2 + p * 2 + 1, none⟩)) rfl rfl (Or.inl ⟨rfl, fun wq hSq => by go_simp⟩) (by decide +kernel) hS ?_
        simp only [Act.put, List.setIfInBounds_toArray, List.set_cons_zero, List.set_cons_succ]
        refine tk 25 (some 227) (.slice a' l'.length c') rfl rfl (Or.inl ⟨rfl, fun wq hSq => by (have q := v2 wq hSq; go_simp)⟩) (by decide +kernel) hS ?_
        simp only [Act.put, List.setIfInBounds_toArray, List.set_cons_zero, List.set_cons_succ]
        refine wpAnyH_ready (rs := [26]) (by decide +kernel) (by simp) ?_
        refine AllReadyH.cons rfl (fun K hK => ?_) AllReadyH.nil
        rw [if_pos (by rfl)]
        go_simp
        have hC := same49 (L1.out.fr hS (Away.nil _ _)) (L2.out.fr hS (Away.nil _ _)) LW.out.1 LW.out.2
        rw [hQ] at hC
        refine hC.mono ?_
        rintro e Y1 ⟨rfl, f1⟩
        have hS := hS.trans f1
        clear f1 hC
        refine hK.out _ _ hS (fun _ => ?_)
        clear hK K
        try simp only [List.getElem_toArray, List.getElem_cons_succ, List.getElem_cons_zero, Act.put, List.setIfInBounds_toArray, List.set_cons_zero, List.set_cons_succ]
        refine tk 27 (some 229) (.bool false) rfl rfl (Or.inl ⟨rfl, fun wq hSq => by go_simp⟩) (by decide +kernel) hS ?_
        simp only [Act.put, List.setIfInBounds_toArray, List.set_cons_zero, List.set_cons_succ]
        refine tk 28 (some 230) (.bool false) rfl rfl (Or.inl ⟨rfl, fun wq hSq => by go_simp⟩) (by decide +kernel) hS ?_
        simp only [Act.put, List.setIfInBounds_toArray, List.set_cons_zero, List.set_cons_succ]
        refine wpAnyH_done (by decide +kernel) ?_ _
        refine plain_end ?_
        have HF : Hid (Fr [] W Y1) := F.out.trans hS
        clear d1 d2 v1 v2 g1 g2 hS
        go_wp2
        go_roundw
        case rel => exact ⟨p + 1, hlt, by go_num, HF.out, HMORE.out⟩
        case measure => simp [intOf]; omega
      · have HNE : Hid (¬ t.virts.map El.abs = u.virts.map El.abs) := HNE.out (fun h => hl (by simp only [El.abs, AE.mk.injEq, List.cons.injEq] at h; simp [h]))
        have hQ := decide_eq_false hl
        clear HMORE hl
        refine tk 0 (some 202) (.pointer (some ⟨T1, 15, none⟩)) rfl rfl (Or.inl ⟨rfl, fun wq hSq => by first | rfl | go_simp⟩) (by decide +kernel) hS ?_
        simp only [Act.put, List.setIfInBounds_toArray, List.set_cons_zero, List.set_cons_succ]
        refine tk 1 (some 203) (.slice (some ⟨b, o, none⟩) t.virts.length t.vc) rfl rfl (Or.inl ⟨rfl, fun wq hSq => by (have q := g1 wq hSq; go_simp)⟩) (by decide +kernel) hS ?_
        simp only [Act.put, List.setIfInBounds_toArray, List.set_cons_zero, List.set_cons_succ]
        refine tk 2 (some 204) (.int .i64 (p : Int)) rfl rfl (Or.inl ⟨rfl, fun wq hSq => by first | rfl | go_simp⟩) (by decide +kernel) hS ?_
        simp only [Act.put, List.setIfInBounds_toArray, List.set_cons_zero, List.set_cons_succ]
        refine tk 3 (some 205) (.pointer (some ⟨b, o + p * 2, none⟩)) rfl rfl (Or.inl ⟨rfl, fun wq hSq => by go_simp⟩) (by decide +kernel) hS ?_
        simp only [Act.put, List.setIfInBounds_toArray, List.set_cons_zero, List.set_cons_succ]
        refine tk 4 (some 206) (.pointer (some ⟨b, o + p * 2, none⟩)) rfl rfl (Or.inl ⟨rfl, fun wq hSq => by go_simp⟩) (by decide +kernel) hS ?_
        simp only [Act.put, List.setIfInBounds_toArray, List.set_cons_zero, List.set_cons_succ]
        refine tk 5 (some 207) (.int .i64 x0) rfl rfl (Or.inl ⟨rfl, fun wq hSq => by (have q := d1 wq hSq; go_simp)⟩) (by decide +kernel) hS ?_
        simp only [Act.put, List.setIfInBounds_toArray, List.set_cons_zero, List.set_cons_succ]
        refine tk 6 (some 208) (.pointer (some ⟨T2, 15, none⟩)) rfl rfl (Or.inl ⟨rfl, fun wq hSq => by first | rfl | go_simp⟩) (by decide +kernel) hS ?_
        simp only [Act.put, List.setIfInBounds_toArray, List.set_cons_zero, List.set_cons_succ]
        refine tk 7 (some 209) (.slice (some ⟨b2, o2, none⟩) t.virts.length u.vc) rfl rfl (Or.inl ⟨rfl, fun wq hSq => by (have q := g2 wq hSq; go_simp)⟩) (by decide +kernel) hS ?_
        simp only [Act.put, List.setIfInBounds_toArray, List.set_cons_zero, List.set_cons_succ]
        refine tk 8 (some 210) (.int .i64 (p : Int)) rfl rfl (Or.inl ⟨rfl, fun wq hSq => by first | rfl | go_simp⟩) (by decide +kernel) hS ?_
        simp only [Act.put, List.setIfInBounds_toArray, List.set_cons_zero, List.set_cons_succ]
        refine tk 9 (some 211) (.pointer (some ⟨b2, o2 + p * 2, none⟩)) rfl rfl (Or.inl ⟨rfl, fun wq hSq => by go_simp⟩) (by decide +kernel) hS ?_
        simp only [Act.put, List.setIfInBounds_toArray, List.set_cons_zero, List.set_cons_succ]
        refine tk 10 (some 212) (.pointer (some ⟨b2, o2 + p * 2, none⟩)) rfl rfl (Or.inl ⟨rfl, fun wq hSq => by go_simp⟩) (by decide +kernel) hS ?_
        simp only [Act.put, List.setIfInBounds_toArray, List.set_cons_zero, List.set_cons_succ]
        refine tk 11 (some 213) (.int .i64 x0) rfl rfl (Or.inl ⟨rfl, fun wq hSq => by (have q := d2 wq hSq; go_simp)⟩) (by decide +kernel) hS ?_
        simp only [Act.put, List.setIfInBounds_toArray, List.set_cons_zero, List.set_cons_succ]
        refine tk 12 (some 214) (.bool false) rfl rfl (Or.inl ⟨rfl, fun wq hSq => by go_simp⟩) (by decide +kernel) hS ?_
        simp only [Act.put, List.setIfInBounds_toArray, List.set_cons_zero, List.set_cons_succ]
        refine tk 13 (some 215) (.bool false) rfl rfl (Or.inl ⟨rfl, fun wq hSq => by first | rfl | go_simp⟩) (by decide +kernel) hS ?_
        simp only [Act.put, List.setIfInBounds_toArray, List.set_cons_zero, List.set_cons_succ]
        refine tk 14 (some 216) (.pointer (some ⟨T1, 15, none⟩)) rfl rfl (Or.inl ⟨rfl, fun wq hSq => by first | rfl | go_simp⟩) (by decide +kernel) hS ?_
        simp only [Act.put, List.setIfInBounds_toArray, List.set_cons_zero, List.set_cons_succ]
        refine tk 15 (some 217) (.slice (some ⟨b, o, none⟩) t.virts.length t.vc) rfl rfl (Or.inl ⟨rfl, fun wq hSq => by (have q := g1 wq hSq; go_simp)⟩) (by decide +kernel) hS ?_
        simp only [Act.put, List.setIfInBounds_toArray, List.set_cons_zero, List.set_cons_succ]
        refine tk 16 (some 218) (.int .i64 (p : Int)) rfl rfl (Or.inl ⟨rfl, fun wq hSq => by first | rfl | go_simp⟩) (by decide +kernel) hS ?_
        simp only [Act.put, List.setIfInBounds_toArray, List.set_cons_zero, List.set_cons_succ]
        refine tk 17 (some 219) (.pointer (some ⟨b, o + p * 2, none⟩)) rfl rfl (Or.inl ⟨rfl, fun wq hSq => by go_simp⟩) (by decide +kernel) hS ?_
        simp only [Act.put, List.setIfInBounds_toArray, List.set_cons_zero, List.set_cons_succ]
        refine tk 18 (some 220) (.pointer (some ⟨b, o + p * 2 + 1, none⟩)) rfl rfl (Or.inl ⟨rfl, fun wq hSq => by go_simp⟩) (by decide +kernel) hS ?_
        simp only [Act.put, List.setIfInBounds_toArray, List.set_cons_zero, List.set_cons_succ]
        refine tk 19 (some 221) (.slice a l.length c) rfl rfl (Or.inl ⟨rfl, fun wq hSq => by (have q := v1 wq hSq; go_simp)⟩) (by decide +kernel) hS ?_
        simp only [Act.put, List.setIfInBounds_toArray, List.set_cons_zero, List.set_cons_succ]
        refine tk 20 (some 222) (.pointer (some ⟨T2, 15, none⟩)) rfl rfl (Or.inl ⟨rfl, fun wq hSq => by first | rfl | go_simp⟩) (by decide +kernel) hS ?_
        simp only [Act.put, List.setIfInBounds_toArray, List.set_cons_zero, List.set_cons_succ]
        refine tk 21 (some 223) (.slice (some ⟨b2, o2, none⟩) t.virts.length u.vc) rfl rfl (Or.inl ⟨rfl, fun wq hSq => by (have q := g2 wq hSq; go_simp)⟩) (by decide +kernel) hS ?_
        simp only [Act.put, List.setIfInBounds_toArray, List.set_cons_zero, List.set_cons_succ]
        refine tk 22 (some 224) (.int .i64 (p : Int)) rfl rfl (Or.inl ⟨rfl, fun wq hSq => by first | rfl | go_simp⟩) (by decide +kernel) hS ?_
        simp only [Act.put, List.setIfInBounds_toArray, List.set_cons_zero, List.set_cons_succ]
        refine tk 23 (some 225) (.pointer (some ⟨b2, o2 + p * 2, none⟩)) rfl rfl (Or.inl ⟨rfl, fun wq hSq => by go_simp⟩) (by decide +kernel) hS ?_
        simp only [Act.put, List.setIfInBounds_toArray, List.set_cons_zero, List.set_cons_succ]
        refine tk 24 (some 226) (.pointer (some ⟨b2, o2 + p * 2 + 1, none⟩)) rfl rfl (Or.inl ⟨rfl, fun wq hSq => by go_simp⟩) (by decide +kernel) hS ?_
        simp only [Act.put, List.setIfInBounds_toArray, List.set_cons_zero, List.set_cons_succ]
        refine tk 25 (some 227) (.slice a' l'.length c') rfl rfl (Or.inl ⟨rfl, fun wq hSq => by (have q := v2 wq hSq; go_simp)⟩) (by decide +kernel) hS ?_
        simp only [Act.put, List.setIfInBounds_toArray, List.set_cons_zero, List.set_cons_succ]
        refine wpAnyH_ready (rs := [26]) (by decide +kernel) (by simp) ?_
        refine AllReadyH.cons rfl (fun K hK => ?_) AllReadyH.nil
        rw [if_pos (by rfl)]
        go_simp
        have hC := same49 (L1.out.fr hS (Away.nil _ _)) (L2.out.fr hS (Away.nil _ _)) LW.out.1 LW.out.2
        rw [hQ] at hC
        refine hC.mono ?_
        rintro e Y1 ⟨rfl, f1⟩
        have hS := hS.trans f1
        clear f1 hC
        refine hK.out _ _ hS (fun _ => ?_)
        clear hK K
        try simp only [List.getElem_toArray, List.getElem_cons_succ, List.getElem_cons_zero, Act.put, List.setIfInBounds_toArray, List.set_cons_zero, List.set_cons_succ]
        refine tk 27 (some 229) (.bool true) rfl rfl (Or.inl ⟨rfl, fun wq hSq => by go_simp⟩) (by decide +kernel) hS ?_
        simp only [Act.put, List.setIfInBounds_toArray, List.set_cons_zero, List.set_cons_succ]
        refine tk 28 (some 230) (.bool true) rfl rfl (Or.inl ⟨rfl, fun wq hSq => by go_simp⟩) (by decide +kernel) hS ?_
        simp only [Act.put, List.setIfInBounds_toArray, List.set_cons_zero, List.set_cons_succ]
        refine wpAnyH_done (by decide +kernel) ?_ _
        refine plain_end ?_
        have HF : Hid (Fr [] W Y1) := F.out.trans hS
        clear d1 d2 v1 v2 g1 g2 hS
        go_wp2
        exact hr.out _ HF.out HNE.out _ _ _ _ _ _ _ _ _ _ _ _ _ _ _ _ _ _ _ _ _ _ _ _ _ _ _ _ _ _ _ _ _ _
    · obtain rfl : p = t.virts.length := by omega
      have HEQ : t.virts.map El.abs = u.virts.map El.abs := by
        have h := FF.out.2
        rw [List.take_of_length_le (by simp), List.take_of_length_le (by simp only [List.length_map]; rw [HN.out]; exact Nat.le_refl _)] at h
        exact h
      go_wp2
      exact h.out wr F.out HEQ _ _ _ _ _ _ _ _ _ _ _ _ _ _ _ _ _ _ _ _ _ _ _ _ _ _ _ _ _ _ _ _ _ _
end Go.Proofs.YtkogfgbgmifcnaaDoor
