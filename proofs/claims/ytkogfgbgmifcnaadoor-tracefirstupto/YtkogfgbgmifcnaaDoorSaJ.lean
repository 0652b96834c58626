/-
  How great a trace is: some number; condition: it lies as told.
-/
import Derived.Test.YtkogfgbgmifcnaaDoorSaD
namespace Go.Proofs.YtkogfgbgmifcnaaDoor
open Go.RowKit
set_option linter.unusedVariables false
set_option linter.unusedSimpArgs false

theorem info48s : (Tryd.prog.info? 48).map (·.size) = some 5 := by kernel_rfl
set_option maxRecDepth 100000 in
set_option maxHeartbeats 8000000 in
theorem size25a {W : World} {B T : Nat} {t : Tr} {m0 : Int} (HT : Hid (W.heap[T]? = some (.cells t.arr 33 (0, 0)) ∧ TrOk W B t))
    {Q : Exit → Act → World → Prop} {u0 u2 u4 u5 u6 u7 u8 u9 u10 u11 u12 u13 u14 u15 u16 u17 u18 u19 u20 u21 u22 u23 u24 u25 u26 u27 u28 u29 u33 u34 u35 u36 u37 u38 u39 u40 u41 u42 u43 u44 u45 u46 u47 u48 u49 u50 u51 u52 u53 u54 u55 u56 u57 u58 u59 u60 u61 u62 u63 u64 u65 u66 u67 u68 : Value}
    (h : Hid (∀ W' m1, Fr [] W W' → ∀ n5 n33 n34 n35 n36 n37 n38 n39 n40 n41, Q .normal { tmps := #[u0, .pointer (some ⟨T, 0, none⟩), u2, .int .i64 m1, u4, n5, u6, u7, u8, u9, u10, u11, u12, u13, u14, u15, u16, u17, u18, u19, u20, u21, u22, u23, u24, u25, u26, u27, u28, u29, .slice t.oa t.ops.length t.oc, .int .i64 (t.ops.length : Nat), .int .i64 (t.ops.length : Nat), n33, n34, n35, n36, n37, n38, n39, n40, n41, u42, u43, u44, u45, u46, u47, u48, u49, u50, u51, u52, u53, u54, u55, u56, u57, u58, u59, u60, u61, u62, u63, u64, u65, u66, u67, u68], defers := [] } W')) :
    (sub Tryd.f25 [1, 1, 0, 1, 0]).wp Tryd.prog (Exit.inBlock 0 Q) { tmps := #[u0, .pointer (some ⟨T, 0, none⟩), u2, .int .i64 m0, u4, u5, u6, u7, u8, u9, u10, u11, u12, u13, u14, u15, u16, u17, u18, u19, u20, u21, u22, u23, u24, u25, u26, u27, u28, u29, .slice t.oa t.ops.length t.oc, .int .i64 (t.ops.length : Nat), .int .i64 0, u33, u34, u35, u36, u37, u38, u39, u40, u41, u42, u43, u44, u45, u46, u47, u48, u49, u50, u51, u52, u53, u54, u55, u56, u57, u58, u59, u60, u61, u62, u63, u64, u65, u66, u67, u68], defers := [] } W := by
  have hnI : (t.ops.length : Int) ≤ 140737488355328 := by have := HT.out.2.ops.fit; omega
  have F0 : Hid (Fr [] W W) := Fr.refl _ _
  dsimp only [sub, nav, kid, Tryd.f25, Option.getD, if_true, if_false]
  go_wp2
  go_loopw [3, 32] (fun m i wr => ∃ p : Nat, ∃ m1 : Int, p ≤ t.ops.length ∧ i = .int .i64 p ∧ m = .int .i64 m1 ∧ Hid (Fr [] W wr)) (fun _ i _ => t.ops.length - (intOf i).toNat)
  case atStart => exact ⟨0, m0, Nat.zero_le _, rfl, rfl, F0⟩
  case round =>
    obtain ⟨p, m1, hp, rfl, rfl, F⟩ := hrel
    by_cases hlt : p < t.ops.length
    · have hpI : (p : Int) < t.ops.length := by omega
      have HTw : Hid (TrOk wr B t) := HT.out.2.fr0 F.out
      obtain ⟨e, he⟩ : ∃ e, t.ops[p]? = some e := ⟨_, List.getElem?_eq_getElem hlt⟩
      have ok1 := HTw.out.opl e (List.mem_of_getElem? he)
      obtain ⟨b, o, e1, r1, _⟩ := HTw.out.ops.elem (f := El.cl) (fun x hx => El.cl_len (HTw.out.opl x hx)) (by omega) he
      obtain ⟨ep, eq, a, c, l⟩ := e
      obtain ⟨x0, rfl⟩ := len1 ok1.hp
      obtain ⟨y0, y1, y2, rfl⟩ := len3 ok1.hq
      have hfl : (l.length : Int) ≤ 140737488355328 := by have h9 := ok1.sl.fit; simp only at h9; omega
      have R1 : Hid (wr.rangeAt b (o + p * 5) [.int .i64 x0, .slice a l.length c, .int .i64 y0, .int .i64 y1, .int .i64 y2]) := r1
      have HU : Hid (Tryd.prog.underlying 48 = _) := Tryd.underlying48
      have HI : Hid ((Tryd.prog.info? 48).map (·.size) = some ([.int .i64 x0, .slice a l.length c, .int .i64 y0, .int .i64 y1, .int .i64 y2] : List Value).length) := info48s
      rw [e1]
      have bA := heap_alloc_new wr (.cells #[.int .i64 0, .slice none 0 0, .int .i64 0, .int .i64 0, .int .i64 0] 48)
      have hS : Hid (Fr [] wr ((wr.alloc (.cells #[.int .i64 0, .slice none 0 0, .int .i64 0, .int .i64 0, .int .i64 0] 48)).setRow wr.heap.size ([.int .i64 x0, .slice a l.length c, .int .i64 y0, .int .i64 y1, .int .i64 y2] : List Value).toArray)) := ((Fr.refl _ _).alloc _).setRow (.inr (Nat.le_refl _)) _
      have bB := setRow_heap (wr.alloc (.cells #[.int .i64 0, .slice none 0 0, .int .i64 0, .int .i64 0, .int .i64 0] 48)) wr.heap.size _ ([.int .i64 x0, .slice a l.length c, .int .i64 y0, .int .i64 y1, .int .i64 y2] : List Value).toArray _ _ bA
      have kA := at_cells bB 1 rfl
      have HA : Hid ((wr.alloc (.cells #[.int .i64 0, .slice none 0 0, .int .i64 0, .int .i64 0, .int .i64 0] 48)).heap[wr.heap.size]? = some (.cells #[.int .i64 0, .slice none 0 0, .int .i64 0, .int .i64 0, .int .i64 0] 48 (0, 0))) := bA
      clear he ok1 r1 e1 bA bB
      go_wp2_with (first
        | refine wpList_load_mid rfl 48 (.tmp 34) rfl b (o + p * 5) rfl [.int .i64 x0, .slice a l.length c, .int .i64 y0, .int .i64 y1, .int .i64 y2] _ R1.out HU.out rfl HI.out ?_
        | refine wpList_store_row rfl 48 (.tmp 5) (.tmp 35) rfl wr.heap.size ([.int .i64 x0, .slice a l.length c, .int .i64 y0, .int .i64 y1, .int .i64 y2] : List Value).toArray rfl rfl 48 _ HA.out info48s rfl (by simp [Value.oneCell']) ?_)
      have HF : Hid (Fr [] W _) := F.out.trans hS.out
      clear kA R1 HI HA hS
      go_roundw
      case rel => exact ⟨p + 1, _, hlt, by go_num, rfl, HF⟩
      case measure => simp [intOf]; omega
    · obtain rfl : p = t.ops.length := by omega
      go_wp2
      exact h.out wr m1 F.out _ _ _ _ _ _ _ _ _ _

theorem info57s : (Tryd.prog.info? 57).map (·.size) = some 5 := by kernel_rfl
set_option maxRecDepth 100000 in
set_option maxHeartbeats 8000000 in
theorem size25b {W : World} {B T : Nat} {t : Tr} {m0 : Int} (HT : Hid (W.heap[T]? = some (.cells t.arr 33 (0, 0)) ∧ TrOk W B t))
    {Q : Exit → Act → World → Prop} {u0 u2 u4 u5 u6 u7 u8 u9 u10 u11 u12 u13 u14 u15 u16 u17 u18 u19 u20 u21 u22 u23 u24 u25 u26 u27 u28 u29 u30 u31 u32 u33 u34 u35 u36 u37 u38 u39 u40 u41 u42 u46 u47 u48 u49 u50 u51 u52 u53 u54 u55 u56 u57 u58 u59 u60 u61 u62 u63 u64 u65 u66 u67 u68 : Value}
    (h : Hid (∀ W' m1, Fr [] W W' → ∀ n7 n46 n47 n48 n49 n50 n51 n52 n53 n54, Q .normal { tmps := #[u0, .pointer (some ⟨T, 0, none⟩), u2, .int .i64 m1, u4, u5, u6, n7, u8, u9, u10, u11, u12, u13, u14, u15, u16, u17, u18, u19, u20, u21, u22, u23, u24, u25, u26, u27, u28, u29, u30, u31, u32, u33, u34, u35, u36, u37, u38, u39, u40, u41, u42, .slice t.la t.links.length t.lc, .int .i64 (t.links.length : Nat), .int .i64 (t.links.length : Nat), n46, n47, n48, n49, n50, n51, n52, n53, n54, u55, u56, u57, u58, u59, u60, u61, u62, u63, u64, u65, u66, u67, u68], defers := [] } W')) :
    (sub Tryd.f25 [1, 1, 1, 0, 1, 0]).wp Tryd.prog (Exit.inBlock 2 Q) { tmps := #[u0, .pointer (some ⟨T, 0, none⟩), u2, .int .i64 m0, u4, u5, u6, u7, u8, u9, u10, u11, u12, u13, u14, u15, u16, u17, u18, u19, u20, u21, u22, u23, u24, u25, u26, u27, u28, u29, u30, u31, u32, u33, u34, u35, u36, u37, u38, u39, u40, u41, u42, .slice t.la t.links.length t.lc, .int .i64 (t.links.length : Nat), .int .i64 0, u46, u47, u48, u49, u50, u51, u52, u53, u54, u55, u56, u57, u58, u59, u60, u61, u62, u63, u64, u65, u66, u67, u68], defers := [] } W := by
  have hnI : (t.links.length : Int) ≤ 140737488355328 := by have := HT.out.2.links.fit; omega
  have F0 : Hid (Fr [] W W) := Fr.refl _ _
  dsimp only [sub, nav, kid, Tryd.f25, Option.getD, if_true, if_false]
  go_wp2
  go_loopw [3, 45] (fun m i wr => ∃ p : Nat, ∃ m1 : Int, p ≤ t.links.length ∧ i = .int .i64 p ∧ m = .int .i64 m1 ∧ Hid (Fr [] W wr)) (fun _ i _ => t.links.length - (intOf i).toNat)
  case atStart => exact ⟨0, m0, Nat.zero_le _, rfl, rfl, F0⟩
  case round =>
    obtain ⟨p, m1, hp, rfl, rfl, F⟩ := hrel
    by_cases hlt : p < t.links.length
    · have hpI : (p : Int) < t.links.length := by omega
      have HTw : Hid (TrOk wr B t) := HT.out.2.fr0 F.out
      obtain ⟨e, he⟩ : ∃ e, t.links[p]? = some e := ⟨_, List.getElem?_eq_getElem hlt⟩
      have ok1 := HTw.out.linkl e (List.mem_of_getElem? he)
      obtain ⟨b, o, e1, r1, _⟩ := HTw.out.links.elem (f := El.cl) (fun x hx => El.cl_len (HTw.out.linkl x hx)) (by omega) he
      obtain ⟨ep, eq, a, c, l⟩ := e
      obtain ⟨x0, x1, x2, x3, rfl⟩ := len4 ok1.hp
      obtain rfl := List.eq_nil_of_length_eq_zero ok1.hq
      have hfl : (l.length : Int) ≤ 140737488355328 := by have h9 := ok1.sl.fit; simp only at h9; omega
      have R1 : Hid (wr.rangeAt b (o + p * 5) [.int .i64 x0, .int .i64 x1, .int .i64 x2, .int .i64 x3, .slice a l.length c]) := r1
      have HU : Hid (Tryd.prog.underlying 57 = _) := Tryd.underlying57
      have HI : Hid ((Tryd.prog.info? 57).map (·.size) = some ([.int .i64 x0, .int .i64 x1, .int .i64 x2, .int .i64 x3, .slice a l.length c] : List Value).length) := info57s
      rw [e1]
      have bA := heap_alloc_new wr (.cells #[.int .i64 0, .int .i64 0, .int .i64 0, .int .i64 0, .slice none 0 0] 57)
      have hS : Hid (Fr [] wr ((wr.alloc (.cells #[.int .i64 0, .int .i64 0, .int .i64 0, .int .i64 0, .slice none 0 0] 57)).setRow wr.heap.size ([.int .i64 x0, .int .i64 x1, .int .i64 x2, .int .i64 x3, .slice a l.length c] : List Value).toArray)) := ((Fr.refl _ _).alloc _).setRow (.inr (Nat.le_refl _)) _
      have bB := setRow_heap (wr.alloc (.cells #[.int .i64 0, .int .i64 0, .int .i64 0, .int .i64 0, .slice none 0 0] 57)) wr.heap.size _ ([.int .i64 x0, .int .i64 x1, .int .i64 x2, .int .i64 x3, .slice a l.length c] : List Value).toArray _ _ bA
      have kA := at_cells bB 4 rfl
      have HA : Hid ((wr.alloc (.cells #[.int .i64 0, .int .i64 0, .int .i64 0, .int .i64 0, .slice none 0 0] 57)).heap[wr.heap.size]? = some (.cells #[.int .i64 0, .int .i64 0, .int .i64 0, .int .i64 0, .slice none 0 0] 57 (0, 0))) := bA
      clear he ok1 r1 e1 bA bB
      go_wp2_with (first
        | refine wpList_load_mid rfl 57 (.tmp 47) rfl b (o + p * 5) rfl [.int .i64 x0, .int .i64 x1, .int .i64 x2, .int .i64 x3, .slice a l.length c] _ R1.out HU.out rfl HI.out ?_
        | refine wpList_store_row rfl 57 (.tmp 7) (.tmp 48) rfl wr.heap.size ([.int .i64 x0, .int .i64 x1, .int .i64 x2, .int .i64 x3, .slice a l.length c] : List Value).toArray rfl rfl 57 _ HA.out info57s rfl (by simp [Value.oneCell']) ?_)
      have HF : Hid (Fr [] W _) := F.out.trans hS.out
      clear kA R1 HI HA hS
      go_roundw
      case rel => exact ⟨p + 1, _, hlt, by go_num, rfl, HF⟩
      case measure => simp [intOf]; omega
    · obtain rfl : p = t.links.length := by omega
      go_wp2
      exact h.out wr m1 F.out _ _ _ _ _ _ _ _ _ _

theorem info59s : (Tryd.prog.info? 59).map (·.size) = some 2 := by kernel_rfl
set_option maxRecDepth 100000 in
set_option maxHeartbeats 8000000 in
theorem size25c {W : World} {B T : Nat} {t : Tr} {m0 : Int} (HT : Hid (W.heap[T]? = some (.cells t.arr 33 (0, 0)) ∧ TrOk W B t))
    {Q : Exit → Act → World → Prop} {u0 u2 u4 u5 u6 u7 u8 u9 u10 u11 u12 u13 u14 u15 u16 u17 u18 u19 u20 u21 u22 u23 u24 u25 u26 u27 u28 u29 u30 u31 u32 u33 u34 u35 u36 u37 u38 u39 u40 u41 u42 u43 u44 u45 u46 u47 u48 u49 u50 u51 u52 u53 u54 u55 u59 u60 u61 u62 u63 u64 u65 u66 u67 u68 : Value}
    (h : Hid (∀ W' m1, Fr [] W W' → ∀ n9 n59 n60 n61 n62 n63 n64 n65 n66 n67, Q .normal { tmps := #[u0, .pointer (some ⟨T, 0, none⟩), u2, .int .i64 m1, u4, u5, u6, u7, u8, n9, u10, u11, u12, u13, u14, u15, u16, u17, u18, u19, u20, u21, u22, u23, u24, u25, u26, u27, u28, u29, u30, u31, u32, u33, u34, u35, u36, u37, u38, u39, u40, u41, u42, u43, u44, u45, u46, u47, u48, u49, u50, u51, u52, u53, u54, u55, .slice t.va t.virts.length t.vc, .int .i64 (t.virts.length : Nat), .int .i64 (t.virts.length : Nat), n59, n60, n61, n62, n63, n64, n65, n66, n67, u68], defers := [] } W')) :
    (sub Tryd.f25 [1, 1, 1, 1, 0, 1, 0]).wp Tryd.prog (Exit.inBlock 4 Q) { tmps := #[u0, .pointer (some ⟨T, 0, none⟩), u2, .int .i64 m0, u4, u5, u6, u7, u8, u9, u10, u11, u12, u13, u14, u15, u16, u17, u18, u19, u20, u21, u22, u23, u24, u25, u26, u27, u28, u29, u30, u31, u32, u33, u34, u35, u36, u37, u38, u39, u40, u41, u42, u43, u44, u45, u46, u47, u48, u49, u50, u51, u52, u53, u54, u55, .slice t.va t.virts.length t.vc, .int .i64 (t.virts.length : Nat), .int .i64 0, u59, u60, u61, u62, u63, u64, u65, u66, u67, u68], defers := [] } W := by
  have hnI : (t.virts.length : Int) ≤ 140737488355328 := by have := HT.out.2.virts.fit; omega
  have F0 : Hid (Fr [] W W) := Fr.refl _ _
  dsimp only [sub, nav, kid, Tryd.f25, Option.getD, if_true, if_false]
  go_wp2
  go_loopw [3, 58] (fun m i wr => ∃ p : Nat, ∃ m1 : Int, p ≤ t.virts.length ∧ i = .int .i64 p ∧ m = .int .i64 m1 ∧ Hid (Fr [] W wr)) (fun _ i _ => t.virts.length - (intOf i).toNat)
  case atStart => exact ⟨0, m0, Nat.zero_le _, rfl, rfl, F0⟩
  case round =>
    obtain ⟨p, m1, hp, rfl, rfl, F⟩ := hrel
    by_cases hlt : p < t.virts.length
    · have hpI : (p : Int) < t.virts.length := by omega
      have HTw : Hid (TrOk wr B t) := HT.out.2.fr0 F.out
      obtain ⟨e, he⟩ : ∃ e, t.virts[p]? = some e := ⟨_, List.getElem?_eq_getElem hlt⟩
      have ok1 := HTw.out.virtl e (List.mem_of_getElem? he)
      obtain ⟨b, o, e1, r1, _⟩ := HTw.out.virts.elem (f := El.cl) (fun x hx => El.cl_len (HTw.out.virtl x hx)) (by omega) he
      obtain ⟨ep, eq, a, c, l⟩ := e
      obtain ⟨x0, rfl⟩ := len1 ok1.hp
      obtain rfl := List.eq_nil_of_length_eq_zero ok1.hq
      have hfl : (l.length : Int) ≤ 140737488355328 := by have h9 := ok1.sl.fit; simp only at h9; omega
      have R1 : Hid (wr.rangeAt b (o + p * 2) [.int .i64 x0, .slice a l.length c]) := r1
      have HU : Hid (Tryd.prog.underlying 59 = _) := Tryd.underlying59
      have HI : Hid ((Tryd.prog.info? 59).map (·.size) = some ([.int .i64 x0, .slice a l.length c] : List Value).length) := info59s
      rw [e1]
      have bA := heap_alloc_new wr (.cells #[.int .i64 0, .slice none 0 0] 59)
      have hS : Hid (Fr [] wr ((wr.alloc (.cells #[.int .i64 0, .slice none 0 0] 59)).setRow wr.heap.size ([.int .i64 x0, .slice a l.length c] : List Value).toArray)) := ((Fr.refl _ _).alloc _).setRow (.inr (Nat.le_refl _)) _
      have bB := setRow_heap (wr.alloc (.cells #[.int .i64 0, .slice none 0 0] 59)) wr.heap.size _ ([.int .i64 x0, .slice a l.length c] : List Value).toArray _ _ bA
      have kA := at_cells bB 1 rfl
      have HA : Hid ((wr.alloc (.cells #[.int .i64 0, .slice none 0 0] 59)).heap[wr.heap.size]? = some (.cells #[.int .i64 0, .slice none 0 0] 59 (0, 0))) := bA
      clear he ok1 r1 e1 bA bB
      go_wp2_with (first
        | refine wpList_load_mid rfl 59 (.tmp 60) rfl b (o + p * 2) rfl [.int .i64 x0, .slice a l.length c] _ R1.out HU.out rfl HI.out ?_
        | refine wpList_store_row rfl 59 (.tmp 9) (.tmp 61) rfl wr.heap.size ([.int .i64 x0, .slice a l.length c] : List Value).toArray rfl rfl 59 _ HA.out info59s rfl (by simp [Value.oneCell']) ?_)
      have HF : Hid (Fr [] W _) := F.out.trans hS.out
      clear kA R1 HI HA hS
      go_roundw
      case rel => exact ⟨p + 1, _, hlt, by go_num, rfl, HF⟩
      case measure => simp [intOf]; omega
    · obtain rfl : p = t.virts.length := by omega
      go_wp2
      exact h.out wr m1 F.out _ _ _ _ _ _ _ _ _ _

set_option maxRecDepth 100000 in
set_option maxHeartbeats 8000000 in
theorem size25 {w : World} {B : Nat} {t : Tr} (h : TrOk w B t) : Calls Tryd.prog 25 #[.agg t.arr] w fun e w' => ∃ n : Int, e = .returned (.int .i64 n) ∧ Fr [] w w' := by
  have F1 : Fr [] w (w.alloc (.cells t.arr 33)) := (Fr.refl _ _).alloc _
  have HT : Hid ((w.alloc (.cells t.arr 33)).heap[w.heap.size]? = some (.cells t.arr 33 (0, 0)) ∧ TrOk (w.alloc (.cells t.arr 33)) B t) := ⟨heap_alloc_new w _, h.fr0 F1⟩
  have HF : Hid (Fr [] w (w.alloc (.cells t.arr 33))) := F1
  have n1 : (t.ins.length : Int) ≤ 140737488355328 := by have := h.ins.fit; omega
  have n2 : (t.ops.length : Int) ≤ 140737488355328 := by have := h.ops.fit; omega
  have n3 : (t.links.length : Int) ≤ 140737488355328 := by have := h.links.fit; omega
  have n4 : (t.virts.length : Int) ≤ 140737488355328 := by have := h.virts.fit; omega
  have n5 : (t.back.length : Int) ≤ 140737488355328 := by have := h.back.fit; omega
  clear h F1
  go_enter Tryd.func25, Tryd.ntmps25
  go_upto_region 1 with fail
  generalize w.alloc (.cells t.arr 33) = W at *
  have k12 := at_cells HT.out.1 12 t.at_ins
  have k13 := at_cells HT.out.1 13 t.at_ops
  have k14 := at_cells HT.out.1 14 t.at_links
  have k15 := at_cells HT.out.1 15 t.at_virts
  have k16 := at_cells HT.out.1 16 t.at_back
  go_upto_region 2 with fail
  clear k12 k14 k15 k16
  go_wp2
  clear k13
  refine size25a HT (hid ?_)
  intro W2 m1 f2 _ _ _ _ _ _ _ _ _ _
  have HF2 : Hid (Fr [] w W2) := HF.out.trans f2
  have HT2 : Hid (W2.heap[w.heap.size]? = some (.cells t.arr 33 (0, 0)) ∧ TrOk W2 B t) := ⟨(f2.block _ (Array.getElem?_eq_some_iff.1 HT.out.1).1 (by simp)).trans HT.out.1, HT.out.2.fr0 f2⟩
  clear HF HT f2
  have HF := HF2
  have HT := HT2
  clear HF2 HT2
  go_upto_region 7 with fail
  have k := at_cells HT.out.1 14 t.at_links
  go_wp2
  clear k
  refine size25b HT (hid ?_)
  intro W2 m1 f2 _ _ _ _ _ _ _ _ _ _
  have HF2 : Hid (Fr [] w W2) := HF.out.trans f2
  have HT2 : Hid (W2.heap[w.heap.size]? = some (.cells t.arr 33 (0, 0)) ∧ TrOk W2 B t) := ⟨(f2.block _ (Array.getElem?_eq_some_iff.1 HT.out.1).1 (by simp)).trans HT.out.1, HT.out.2.fr0 f2⟩
  clear HF HT f2
  have HF := HF2
  have HT := HT2
  clear HF2 HT2
  go_upto_region 12 with fail
  have k := at_cells HT.out.1 15 t.at_virts
  go_wp2
  clear k
  refine size25c HT (hid ?_)
  intro W2 m1 f2 _ _ _ _ _ _ _ _ _ _
  have HF2 : Hid (Fr [] w W2) := HF.out.trans f2
  have HT2 : Hid (W2.heap[w.heap.size]? = some (.cells t.arr 33 (0, 0)) ∧ TrOk W2 B t) := ⟨(f2.block _ (Array.getElem?_eq_some_iff.1 HT.out.1).1 (by simp)).trans HT.out.1, HT.out.2.fr0 f2⟩
  clear HF HT f2
  have HF := HF2
  have HT := HT2
  clear HF2 HT2
  go_wp2
  go_ret
  exact ⟨_, rfl, HF.out⟩

set_option maxRecDepth 100000 in
theorem few9 {w : World} {B : Nat} {t : Tr} (h : TrOk w B t) : Calls Tryd.prog 9 #[.agg t.arr] w fun e w' => ∃ b : Bool, e = .returned (.bool b) ∧ Fr [] w w' := by
  have F1 : Fr [] w (w.alloc (.cells t.arr 33)) := (Fr.refl _ _).alloc _
  have HX : Hid ((w.alloc (.cells t.arr 33)).heap[w.heap.size]? = some (.cells t.arr 33 (0, 0)) ∧ Fr [] w (w.alloc (.cells t.arr 33))) := ⟨heap_alloc_new w _, F1⟩
  have C := size25 (h.fr0 F1)
  clear h F1
  go_enter Tryd.func9, Tryd.ntmps9
  go_upto_region 1 with fail
  generalize w.alloc (.cells t.arr 33) = W at *
  go_wp2_with (first
    | refine wpList_ld33 rfl (.tmp 1) rfl w.heap.size rfl t.arr t.arr_size HX.out.1 ?_
    | (go_at_call 25; refine C.mono ?_; rintro e W2 ⟨n, rfl, f2⟩))
  go_ret
  exact ⟨_, rfl, HX.out.2.trans f2⟩
end Go.Proofs.YtkogfgbgmifcnaaDoor
