/-
  A cache that nobody made: none at all, or one of zeros; condition: keys are numbers of 64 bits.
-/
import Derived.Test.YtnhjplfdfbbihaaCbR
namespace Go.Proofs.Ytnhjplfdfbbihaa
open Go.RowKit Go.Shelf Go.Maps Go.ChangeShapes
set_option linter.unusedVariables false
set_option linter.unusedSimpArgs false
set_option maxRecDepth 100000 in
set_option maxHeartbeats 4000000 in
theorem get_core {w : World} {B c : Nat} {mv : Option Nat} {r0 : Rt} {is : Bool} {k : Ky} (hL2 : ∀ w', Fr [] w w' → w'.cell? ⟨c, 2, none⟩ = some (.map mv)) (hL5 : ∀ w', Fr [] w w' → (Instr.lookup 60 (.map mv) (.agg (kc k)) true).run Try.prog w' = .ok (.tuple #[ev r0, .bool is]) w') (hT : TrOk w B r0.2) (hBw : B ≤ w.heap.size) :
    Calls Try.prog 15 #[.pointer (some ⟨c, 0, none⟩), .agg (kc k)] w fun e w' => ∃ t' : Tr, e = .returned (.tuple #[.agg t'.arr, .int .i64 r0.1, .bool is]) ∧ t'.abs = r0.2.abs ∧ TrOk w' B t' ∧ Fr [] w w' := by
  have F1 : Fr [] w ((w.alloc (.cells (kc k) 29)).alloc (.cells #[.int .i64 0, .int .i64 0, .int .i64 0, .int .i64 0, .int .i64 0, .int .i64 0, .int .i64 0, .int .i64 0, .int .i64 0, .int .i64 0, .int .i64 0, .int .i64 0, .slice none 0 0, .slice none 0 0, .slice none 0 0, .slice none 0 0, .slice none 0 0] 35)) := ((Fr.refl _ _).alloc _).alloc _
  have hx := (((Fr.refl [] (w.alloc (.cells (kc k) 29))).alloc (.cells #[.int .i64 0, .int .i64 0, .int .i64 0, .int .i64 0, .int .i64 0, .int .i64 0, .int .i64 0, .int .i64 0, .int .i64 0, .int .i64 0, .int .i64 0, .int .i64 0, .slice none 0 0, .slice none 0 0, .slice none 0 0, .slice none 0 0, .slice none 0 0] 35)).block _ (by simp) (by simp)).trans (heap_alloc_new w (.cells (kc k) 29))
  have hy : ((w.alloc (.cells (kc k) 29)).alloc (.cells #[.int .i64 0, .int .i64 0, .int .i64 0, .int .i64 0, .int .i64 0, .int .i64 0, .int .i64 0, .int .i64 0, .int .i64 0, .int .i64 0, .int .i64 0, .int .i64 0, .slice none 0 0, .slice none 0 0, .slice none 0 0, .slice none 0 0, .slice none 0 0] 35)).heap[w.heap.size + 1]? = _ := blk2 w _ _
  go_enter Try.func15, Try.ntmps15
  go_upto_region 3 with fail
  generalize (w.alloc (.cells (kc k) 29)).alloc (.cells #[.int .i64 0, .int .i64 0, .int .i64 0, .int .i64 0, .int .i64 0, .int .i64 0, .int .i64 0, .int .i64 0, .int .i64 0, .int .i64 0, .int .i64 0, .int .i64 0, .slice none 0 0, .slice none 0 0, .slice none 0 0, .slice none 0 0, .slice none 0 0] 35) = V at *
  generalize hkb : w.heap.size = kb at *
  have L1 : Hid (∀ w', Fr [] V w' → w'.rangeAt kb 0 (kc k).toList) := fun w' f => range_block ((f.block _ (Array.getElem?_eq_some_iff.1 hx).1 (by simp)).trans hx)
  have L2 : Hid (∀ w', Fr [] V w' → w'.cell? ⟨c, 2, none⟩ = some (.map mv)) := fun w' f => hL2 w' (F1.trans f)
  have L5 : Hid (∀ w', Fr [] V w' → (Instr.lookup 60 (.map mv) (.agg (kc k)) true).run Try.prog w' = .ok (.tuple #[ev r0, .bool is]) w') := fun w' f => hL5 w' (F1.trans f)
  have HT : Hid (TrOk V B r0.2) := hT.fr0 F1
  have HY : Hid (V.heap[kb + 1]? = some (.cells #[.int .i64 0, .int .i64 0, .int .i64 0, .int .i64 0, .int .i64 0, .int .i64 0, .int .i64 0, .int .i64 0, .int .i64 0, .int .i64 0, .int .i64 0, .int .i64 0, .slice none 0 0, .slice none 0 0, .slice none 0 0, .slice none 0 0, .slice none 0 0] 35 (0, 0))) := hy
  have HF : Hid (Fr [] w V ∧ B ≤ V.heap.size ∧ w.heap.size ≤ kb ∧ B ≤ kb) := ⟨F1, by have := F1.size; omega, by omega, hBw⟩
  clear hL2 hL5 hT hBw hx hy hkb F1
  refine reg_in (fun w' => Fr [] V w') ?_
  have hS : Fr [] V V.drew := (Fr.refl _ _).drew
  have hSY := hS
  generalize V.drew = Y at *
  refine tk 0 (some 13) (.pointer (some ⟨c, 0, none⟩)) rfl rfl (Or.inl ⟨rfl, fun wq hSq => by first | rfl | go_simp⟩) (by decide +kernel) hS ?_
  simp only [Act.put, List.setIfInBounds_toArray, List.set_cons_zero, List.set_cons_succ]
  refine tk 1 (some 14) (.pointer (some ⟨c, 0, none⟩)) rfl rfl (Or.inl ⟨rfl, fun wq hSq => by first | rfl | go_simp⟩) (by decide +kernel) hS ?_
  simp only [Act.put, List.setIfInBounds_toArray, List.set_cons_zero, List.set_cons_succ]
  refine tk 2 (some 15) (.pointer (some ⟨c, 2, none⟩)) rfl rfl (Or.inl ⟨rfl, fun wq hSq => by first | rfl | go_simp⟩) (by decide +kernel) hS ?_
  simp only [Act.put, List.setIfInBounds_toArray, List.set_cons_zero, List.set_cons_succ]
  refine tk 3 (some 16) (.map mv) rfl rfl (Or.inl ⟨rfl, fun wq hSq => by have q := L2.out wq hSq; go_simp⟩) (by decide +kernel) hS ?_
  simp only [Act.put, List.setIfInBounds_toArray, List.set_cons_zero, List.set_cons_succ]
  refine tk 4 (some 17) (.agg (kc k)) rfl rfl ?_ (by decide +kernel) hS ?_
  · exact yieldsIf_load_mid rfl 29 (.tmp 3) rfl kb 0 rfl (kc k).toList _ (fun wq hSq => L1.out wq hSq) Try.underlying29 rfl (by rw [info29]; simp [kc_size])
  simp only [Act.put, List.setIfInBounds_toArray, List.set_cons_zero, List.set_cons_succ]
  refine tk 5 (some 18) (.tuple #[ev r0, .bool is]) rfl rfl (Or.inl ⟨rfl, fun wq hSq => by have q := L5.out wq hSq; go_simp⟩) (by decide +kernel) hS ?_
  simp only [Act.put, List.setIfInBounds_toArray, List.set_cons_zero, List.set_cons_succ]
  refine tk 6 (some 12) (.tuple #[ev r0, .bool is]) rfl rfl (Or.inl ⟨rfl, fun wq hSq => by first | rfl | go_simp⟩) (by decide +kernel) hS ?_
  simp only [Act.put, List.setIfInBounds_toArray, List.set_cons_zero, List.set_cons_succ]
  refine tk 7 (some 19) (ev r0) rfl rfl (Or.inl ⟨rfl, fun wq hSq => by go_simp⟩) (by decide +kernel) hS ?_
  simp only [Act.put, List.setIfInBounds_toArray, List.set_cons_zero, List.set_cons_succ]
  refine tk 8 (some 20) (.bool is) rfl rfl (Or.inl ⟨rfl, fun wq hSq => by go_simp⟩) (by decide +kernel) hS ?_
  simp only [Act.put, List.setIfInBounds_toArray, List.set_cons_zero, List.set_cons_succ]
  refine wpAnyH_ready (rs := [9]) (by decide +kernel) (by simp) ?_
  refine AllReadyH.cons rfl (fun K hK => ?_) AllReadyH.nil
  go_simp
  have hS := hS.alloc (.cells #[.int .i64 0, .int .i64 0, .int .i64 0, .int .i64 0, .int .i64 0, .int .i64 0, .int .i64 0, .int .i64 0, .int .i64 0, .int .i64 0, .int .i64 0, .int .i64 0, .int .i64 0, .slice none 0 0, .slice none 0 0, .slice none 0 0, .slice none 0 0, .slice none 0 0] 88)
  have bE := heap_alloc_new Y (.cells #[.int .i64 0, .int .i64 0, .int .i64 0, .int .i64 0, .int .i64 0, .int .i64 0, .int .i64 0, .int .i64 0, .int .i64 0, .int .i64 0, .int .i64 0, .int .i64 0, .int .i64 0, .slice none 0 0, .slice none 0 0, .slice none 0 0, .slice none 0 0, .slice none 0 0] 88)
  have hE : V.heap.size ≤ Y.heap.size := hSY.size
  generalize Y.alloc (.cells #[.int .i64 0, .int .i64 0, .int .i64 0, .int .i64 0, .int .i64 0, .int .i64 0, .int .i64 0, .int .i64 0, .int .i64 0, .int .i64 0, .int .i64 0, .int .i64 0, .int .i64 0, .slice none 0 0, .slice none 0 0, .slice none 0 0, .slice none 0 0, .slice none 0 0] 88) = Y1 at *
  generalize Y.heap.size = ne at *
  refine hK.out _ _ hS (fun _ => ?_)
  clear hK K
  try simp only [List.getElem_toArray, List.getElem_cons_succ, List.getElem_cons_zero, Act.put, List.setIfInBounds_toArray, List.set_cons_zero, List.set_cons_succ]
  refine wpAnyH_ready (rs := [10]) (by decide +kernel) (by simp) ?_
  refine AllReadyH.cons rfl (fun K hK => ?_) AllReadyH.nil
  refine wp_store_row 88 (.tmp 7) (.tmp 19) rfl ne (evl r0).toArray rfl rfl 88 _ bE (by rw [info88, evl_size]) (by rw [evl_size]; rfl) (evl_one r0) ?_
  have bE := setRow_heap Y1 ne _ (evl r0).toArray _ _ bE
  have hS := hS.setRow (g := ne) (.inr hE) (evl r0).toArray
  generalize Y1.setRow ne (evl r0).toArray = Z at *
  refine hK.out _ _ hS (fun _ => ?_)
  clear hK K
  try simp only [List.getElem_toArray, List.getElem_cons_succ, List.getElem_cons_zero, Act.put, List.setIfInBounds_toArray, List.set_cons_zero, List.set_cons_succ]
  refine tk 11 (some 8) (.bool is) rfl rfl (Or.inl ⟨rfl, fun wq hSq => by first | rfl | go_simp⟩) (by decide +kernel) hS ?_
  simp only [Act.put, List.setIfInBounds_toArray, List.set_cons_zero, List.set_cons_succ]
  refine wpAnyH_done (by decide +kernel) ?_ _
  refine plain_end ?_
  have hyZ := (hS.block _ (Array.getElem?_eq_some_iff.1 HY.out).1 (by simp)).trans HY.out
  have hek : ne ≠ kb + 1 := by have := (Array.getElem?_eq_some_iff.1 HY.out).1; omega
  have M1 : Hid (∀ w', Fr [kb + 1] Z w' → w'.rangeAt ne 1 r0.2.cl) := fun w' f => tr_range88 ((f.block _ (Array.getElem?_eq_some_iff.1 bE).1 (by simpa using hek)).trans bE)
  have M2 : Hid (∀ w', Fr [kb + 1] Z w' → w'.cell? ⟨ne, 0, none⟩ = some (.int .i64 r0.1)) := fun w' f => f.cellNew bE (by simpa using hek) rfl
  have HYZ : Hid (Z.heap[kb + 1]? = some (.cells #[.int .i64 0, .int .i64 0, .int .i64 0, .int .i64 0, .int .i64 0, .int .i64 0, .int .i64 0, .int .i64 0, .int .i64 0, .int .i64 0, .int .i64 0, .int .i64 0, .slice none 0 0, .slice none 0 0, .slice none 0 0, .slice none 0 0, .slice none 0 0] 35 (0, 0))) := hyZ
  have HT1 : Hid (TrOk Z B r0.2) := HT.out.fr0 hS
  have HB1 : Hid (B ≤ Z.heap.size) := Nat.le_trans HF.out.2.1 hS.size
  have HZ : Hid (Fr [] w Z) := HF.out.1.trans hS
  clear hS hSY hE bE hyZ L1 L2 L5 HT HY
  go_upto_region 4 with fail
  refine reg_in (fun w' => Fr [kb + 1] Z w') ?_
  have hS0 : Fr [] Z Z.drew := (Fr.refl _ _).drew
  have hS : Fr [kb + 1] Z Z.drew := hS0.sub (by simp)
  generalize Z.drew = U at *
  refine tk 0 (some 21) (.pointer (some ⟨ne, 1, none⟩)) rfl rfl (Or.inl ⟨rfl, fun wq hSq => by first | rfl | go_simp⟩) (by decide +kernel) hS ?_
  simp only [Act.put, List.setIfInBounds_toArray, List.set_cons_zero, List.set_cons_succ]
  refine tk 1 (some 22) (.agg r0.2.arr) rfl rfl ?_ (by decide +kernel) hS ?_
  · exact yieldsIf_load_mid rfl 35 (.tmp 21) rfl ne 1 rfl r0.2.cl _ (fun wq hSq => M1.out wq hSq) Try.underlying35 rfl (by rw [Tr.cl_len]; exact info35)
  simp only [Act.put, List.setIfInBounds_toArray, List.set_cons_zero, List.set_cons_succ]
  refine tk 3 (some 24) (.pointer (some ⟨ne, 0, none⟩)) rfl rfl (Or.inl ⟨rfl, fun wq hSq => by first | rfl | go_simp⟩) (by decide +kernel) hS ?_
  simp only [Act.put, List.setIfInBounds_toArray, List.set_cons_zero, List.set_cons_succ]
  refine tk 4 (some 25) (.int .i64 r0.1) rfl rfl (Or.inl ⟨rfl, fun wq hSq => by have q := M2.out wq hSq; go_simp⟩) (by decide +kernel) hS ?_
  simp only [Act.put, List.setIfInBounds_toArray, List.set_cons_zero, List.set_cons_succ]
  refine tk 5 (some 26) (.bool is) rfl rfl (Or.inl ⟨rfl, fun wq hSq => by first | rfl | go_simp⟩) (by decide +kernel) hS ?_
  simp only [Act.put, List.setIfInBounds_toArray, List.set_cons_zero, List.set_cons_succ]
  refine wpAnyH_ready (rs := [2]) (by decide +kernel) (by simp) ?_
  refine AllReadyH.cons rfl (fun K hK => ?_) AllReadyH.nil
  go_simp
  refine (copied_any (HT1.out.fr0 hS0) (Nat.le_trans HB1.out hS0.size)).mono ?_
  rintro e Y2 ⟨t', rfl, ha', hT', f1⟩
  have hS0 := hS0.trans f1
  have hS : Fr [kb + 1] Z Y2 := hS0.sub (by simp)
  have HT2 : Hid (t'.abs = r0.2.abs ∧ TrOk Y2 B t') := ⟨ha', hT'⟩
  have hyY := (hS0.block _ (Array.getElem?_eq_some_iff.1 HYZ.out).1 (by simp)).trans HYZ.out
  clear f1 ha' hT'
  refine hK.out _ _ hS (fun _ => ?_)
  clear hK K
  try simp only [List.getElem_toArray, List.getElem_cons_succ, List.getElem_cons_zero, Act.put, List.setIfInBounds_toArray, List.set_cons_zero, List.set_cons_succ]
  refine wpAnyH_ready (rs := [6]) (by decide +kernel) (by simp) ?_
  refine AllReadyH.cons rfl (fun K hK => ?_) AllReadyH.nil
  refine wp_store_row 35 (.tmp 4) (.tmp 23) rfl (kb + 1) t'.arr rfl rfl 35 _ hyY (by rw [t'.arr_size]; exact info35) (by rw [t'.arr_size]; rfl) t'.arr_one ?_
  have hyQ := setRow_heap Y2 (kb + 1) _ t'.arr _ _ hyY
  have hS3 : Fr [kb + 1] Z (Y2.setRow (kb + 1) t'.arr) := hS.setRow (.inl (by simp)) _
  have HQ : Hid (TrOk (Y2.setRow (kb + 1) t'.arr) B t') := HT2.out.2.fr (S := [kb + 1]) ((Fr.refl _ _).setRow (.inl (by simp)) _) (away_cells hyY rfl (by have := HF.out.2.2.2; omega))
  generalize Y2.setRow (kb + 1) t'.arr = Q at *
  have hS := hS3
  refine hK.out _ _ hS (fun _ => ?_)
  clear hK K
  try simp only [List.getElem_toArray, List.getElem_cons_succ, List.getElem_cons_zero, Act.put, List.setIfInBounds_toArray, List.set_cons_zero, List.set_cons_succ]
  refine tk 7 (some 5) (.int .i64 r0.1) rfl rfl (Or.inl ⟨rfl, fun wq hSq => by first | rfl | go_simp⟩) (by decide +kernel) hS ?_
  simp only [Act.put, List.setIfInBounds_toArray, List.set_cons_zero, List.set_cons_succ]
  refine tk 8 (some 6) (.bool is) rfl rfl (Or.inl ⟨rfl, fun wq hSq => by first | rfl | go_simp⟩) (by decide +kernel) hS ?_
  simp only [Act.put, List.setIfInBounds_toArray, List.set_cons_zero, List.set_cons_succ]
  refine wpAnyH_done (by decide +kernel) ?_ _
  refine plain_end ?_
  have HFF : Hid (Fr [] w Q) := ((HZ.out.sub (T := [kb + 1]) (by simp)).trans hS).sub (fun j hj => by
    have : j = kb + 1 := by simpa using hj
    have := HF.out.2.2.1
    right; omega)
  have HQQ : Hid (Q.heap[kb + 1]? = some (.cells t'.arr 35 (0, 0))) := hyQ
  clear hS hS0 hS3 hyY hyQ M1 M2 HYZ HT1 HB1 HZ hek
  go_wp2
  refine bodyPost_ret (results35c res15 t'.arr_size rfl HQQ.out) rfl ⟨t', ?_, ?_, HQ.out, HFF.out⟩
  · rfl
  · exact HT2.out.1
set_option maxRecDepth 100000 in
set_option maxHeartbeats 4000000 in
theorem drop_core {w : World} {c : Nat} {mv : Option Nat} {r0 : Rt} {k : Ky} (hL2 : ∀ w', Fr [] w w' → w'.cell? ⟨c, 2, none⟩ = some (.map mv)) (hL5 : ∀ w', Fr [] w w' → (Instr.lookup 60 (.map mv) (.agg (kc k)) true).run Try.prog w' = .ok (.tuple #[ev r0, .bool false]) w') :
    Calls Try.prog 18 #[.pointer (some ⟨c, 0, none⟩), .agg (kc k)] w fun e w' => e = .returned (.bool false) ∧ Fr [] w w' := by
  have F1 : Fr [] w (w.alloc (.cells (kc k) 29)) := (Fr.refl _ _).alloc _
  have hx := heap_alloc_new w (.cells (kc k) 29)
  go_enter Try.func18, Try.ntmps18
  go_upto_region 3 with fail
  generalize w.alloc (.cells (kc k) 29) = V at *
  generalize hkb : w.heap.size = kb at *
  have L1 : Hid (∀ w', Fr [] V w' → w'.rangeAt kb 0 (kc k).toList) := fun w' f => range_block ((f.block _ (Array.getElem?_eq_some_iff.1 hx).1 (by simp)).trans hx)
  have L2 : Hid (∀ w', Fr [] V w' → w'.cell? ⟨c, 2, none⟩ = some (.map mv)) := fun w' f => hL2 w' (F1.trans f)
  have L5 : Hid (∀ w', Fr [] V w' → (Instr.lookup 60 (.map mv) (.agg (kc k)) true).run Try.prog w' = .ok (.tuple #[ev r0, .bool false]) w') := fun w' f => hL5 w' (F1.trans f)
  have HE : Hid (Fr [] w V) := F1
  clear hL2 hL5 hx F1 hkb
  refine reg_in (fun w' => Fr [] V w') ?_
  have hS : Fr [] V V.drew := (Fr.refl _ _).drew
  have hSY := hS
  generalize V.drew = Y at *
  refine tk 0 (some 10) (.pointer (some ⟨c, 0, none⟩)) rfl rfl (Or.inl ⟨rfl, fun wq hSq => by first | rfl | go_simp⟩) (by decide +kernel) hS ?_
  simp only [Act.put, List.setIfInBounds_toArray, List.set_cons_zero, List.set_cons_succ]
  refine tk 1 (some 11) (.pointer (some ⟨c, 0, none⟩)) rfl rfl (Or.inl ⟨rfl, fun wq hSq => by first | rfl | go_simp⟩) (by decide +kernel) hS ?_
  simp only [Act.put, List.setIfInBounds_toArray, List.set_cons_zero, List.set_cons_succ]
  refine tk 2 (some 12) (.pointer (some ⟨c, 2, none⟩)) rfl rfl (Or.inl ⟨rfl, fun wq hSq => by first | rfl | go_simp⟩) (by decide +kernel) hS ?_
  simp only [Act.put, List.setIfInBounds_toArray, List.set_cons_zero, List.set_cons_succ]
  refine tk 3 (some 13) (.map mv) rfl rfl (Or.inl ⟨rfl, fun wq hSq => by have q := L2.out wq hSq; go_simp⟩) (by decide +kernel) hS ?_
  simp only [Act.put, List.setIfInBounds_toArray, List.set_cons_zero, List.set_cons_succ]
  refine tk 4 (some 14) (.agg (kc k)) rfl rfl ?_ (by decide +kernel) hS ?_
  · exact yieldsIf_load_mid rfl 29 (.tmp 3) rfl kb 0 rfl (kc k).toList _ (fun wq hSq => L1.out wq hSq) Try.underlying29 rfl (by rw [info29]; simp [kc_size])
  simp only [Act.put, List.setIfInBounds_toArray, List.set_cons_zero, List.set_cons_succ]
  refine tk 5 (some 15) (.tuple #[ev r0, .bool false]) rfl rfl (Or.inl ⟨rfl, fun wq hSq => by have q := L5.out wq hSq; go_simp⟩) (by decide +kernel) hS ?_
  simp only [Act.put, List.setIfInBounds_toArray, List.set_cons_zero, List.set_cons_succ]
  refine tk 6 (some 9) (.tuple #[ev r0, .bool false]) rfl rfl (Or.inl ⟨rfl, fun wq hSq => by first | rfl | go_simp⟩) (by decide +kernel) hS ?_
  simp only [Act.put, List.setIfInBounds_toArray, List.set_cons_zero, List.set_cons_succ]
  refine tk 7 (some 16) (ev r0) rfl rfl (Or.inl ⟨rfl, fun wq hSq => by go_simp⟩) (by decide +kernel) hS ?_
  simp only [Act.put, List.setIfInBounds_toArray, List.set_cons_zero, List.set_cons_succ]
  refine tk 8 (some 17) (.bool false) rfl rfl (Or.inl ⟨rfl, fun wq hSq => by go_simp⟩) (by decide +kernel) hS ?_
  simp only [Act.put, List.setIfInBounds_toArray, List.set_cons_zero, List.set_cons_succ]
  refine wpAnyH_ready (rs := [9]) (by decide +kernel) (by simp) ?_
  refine AllReadyH.cons rfl (fun K hK => ?_) AllReadyH.nil
  go_simp
  have hS := hS.alloc (.cells #[.int .i64 0, .int .i64 0, .int .i64 0, .int .i64 0, .int .i64 0, .int .i64 0, .int .i64 0, .int .i64 0, .int .i64 0, .int .i64 0, .int .i64 0, .int .i64 0, .int .i64 0, .slice none 0 0, .slice none 0 0, .slice none 0 0, .slice none 0 0, .slice none 0 0] 88)
  have bE := heap_alloc_new Y (.cells #[.int .i64 0, .int .i64 0, .int .i64 0, .int .i64 0, .int .i64 0, .int .i64 0, .int .i64 0, .int .i64 0, .int .i64 0, .int .i64 0, .int .i64 0, .int .i64 0, .int .i64 0, .slice none 0 0, .slice none 0 0, .slice none 0 0, .slice none 0 0, .slice none 0 0] 88)
  have hE : V.heap.size ≤ Y.heap.size := hSY.size
  generalize Y.alloc (.cells #[.int .i64 0, .int .i64 0, .int .i64 0, .int .i64 0, .int .i64 0, .int .i64 0, .int .i64 0, .int .i64 0, .int .i64 0, .int .i64 0, .int .i64 0, .int .i64 0, .int .i64 0, .slice none 0 0, .slice none 0 0, .slice none 0 0, .slice none 0 0, .slice none 0 0] 88) = Y1 at *
  generalize Y.heap.size = ne at *
  refine hK.out _ _ hS (fun _ => ?_)
  clear hK K
  try simp only [List.getElem_toArray, List.getElem_cons_succ, List.getElem_cons_zero, Act.put, List.setIfInBounds_toArray, List.set_cons_zero, List.set_cons_succ]
  refine wpAnyH_ready (rs := [10]) (by decide +kernel) (by simp) ?_
  refine AllReadyH.cons rfl (fun K hK => ?_) AllReadyH.nil
  refine wp_store_row 88 (.tmp 5) (.tmp 16) rfl ne (evl r0).toArray rfl rfl 88 _ bE (by rw [info88, evl_size]) (by rw [evl_size]; rfl) (evl_one r0) ?_
  have bE := setRow_heap Y1 ne _ (evl r0).toArray _ _ bE
  have hS := hS.setRow (g := ne) (.inr hE) (evl r0).toArray
  generalize Y1.setRow ne (evl r0).toArray = Z at *
  refine hK.out _ _ hS (fun _ => ?_)
  clear hK K
  try simp only [List.getElem_toArray, List.getElem_cons_succ, List.getElem_cons_zero, Act.put, List.setIfInBounds_toArray, List.set_cons_zero, List.set_cons_succ]
  refine tk 11 (some 6) (.bool false) rfl rfl (Or.inl ⟨rfl, fun wq hSq => by first | rfl | go_simp⟩) (by decide +kernel) hS ?_
  simp only [Act.put, List.setIfInBounds_toArray, List.set_cons_zero, List.set_cons_succ]
  refine wpAnyH_done (by decide +kernel) ?_ _
  refine plain_end ?_
  have HF : Hid (Fr [] w Z) := HE.out.trans hS
  clear hS hSY hE bE L1 L2 L5 HE
  go_wp2
  go_ret
  exact ⟨rfl, HF.out⟩
theorem wpList_want {P : Program} {ops : Array Oper} {Q : Exit → Act → World → Prop} {a : Act} {w : World} {rest : List Oper} {o : Oper} (hw : Region.wanted o (yielded ops a.tmps) = true) (h : ∀ K : Act → World → Prop, (∀ a w, wpList P ops Q rest a w → K a w) → o.wp P a w K Q) : wpList P ops Q (o :: rest) a w :=
  wpList_step fun K hK => by rw [if_pos hw]; exact h K hK
/-- A key is loaded where that is asked for. -/
theorem wpList_ld29w {ops : Array Oper} {rest : List Oper} {o : Oper} {a : Act} {w : World} {Q : Exit → Act → World → Prop} (hw : Region.wanted o (yielded ops a.tmps) = true) (x : Operand) (ho : o.op = .load 29 x)
    (b off : Nat) (hx : a.eval x = .pointer (some ⟨b, off, none⟩)) (k : Ky) (hc : w.rangeAt b off (kc k).toList)
    (h : wpList Try.prog ops Q rest (a.put o.dst (.agg (kc k))) w) : wpList Try.prog ops Q (o :: rest) a w :=
  wpList_want hw fun K hK => wp_load_mid 29 x ho b off hx (kc k).toList _ hc Try.underlying29 rfl (by rw [info29]; simp [kc_size]) (hK _ _ (by simpa using h))
def zeroC : Array Value := #[.int .i64 0, .slice none 0 0, .map none, .slice none 0 0, .map none, .map none, .int .i64 0, .int .i64 0]
def ZC (w : World) (c : Nat) : Prop := w.heap[c]? = some (.cells zeroC 64 (0, 0))
theorem ZC.fr0 {w w' : World} {c : Nat} (h : ZC w c) (f : Fr [] w w') : ZC w' c := (f.block _ (Array.getElem?_eq_some_iff.1 h).1 (by simp)).trans h
theorem look60n {k : Ky} (hk : kw k) (w : World) : (Instr.lookup 60 (.map none) (.agg (kc k)) true).run Try.prog w = .ok (.tuple #[ev (0, tr0), .bool false]) w := by
  have := Maps.look_nil (P := Try.prog) (w := w) true law29 under60 (zero88 w) (keyOf29 k hk)
  exact this
theorem look62n {i p : Int} (hi : W64 i) (hp : W64 p) (w : World) : (Instr.lookup 62 (.map none) (.agg #[.int .i64 i, .int .i64 p]) true).run Try.prog w = .ok (.tuple #[.int .i64 0, .bool false]) w := by
  have := Maps.look_nil (P := Try.prog) (w := w) true law94 under62 (zero3 w) (keyOf94 hi hp)
  exact this
set_option maxRecDepth 100000 in
theorem most_n {w : World}  : Calls Try.prog 12 #[.pointer none] w fun e w' => e = .returned (.int .i64 0) ∧ Fr [] w w' := by
  go_enter Try.func12, Try.ntmps12
  go_wp2
  go_ret
  exact ⟨rfl, Fr.refl _ _⟩
set_option maxRecDepth 100000 in
theorem most_z {w : World} {c : Nat} (h : ZC w c) : Calls Try.prog 12 #[.pointer (some ⟨c, 0, none⟩)] w fun e w' => e = .returned (.int .i64 0) ∧ Fr [] w w' := by
  have k7 : w.cell? ⟨c, 7, none⟩ = some (.int .i64 0) := at_cells h 7 rfl
  clear h
  go_enter Try.func12, Try.ntmps12
  go_wp2
  go_ret
  exact ⟨rfl, Fr.refl _ _⟩
set_option maxRecDepth 100000 in
theorem linked_n {w : World} {i p : Int} : Calls Try.prog 17 #[.pointer none, .int .i64 i, .int .i64 p] w fun e w' => e = .returned (.tuple #[.int .i64 0, .bool false]) ∧ Fr [] w w' := by
  go_enter Try.func17, Try.ntmps17
  go_wp2
  exact bodyPost_ret (results_tmp2 rfl _ _ _) rfl ⟨rfl, Fr.refl _ _⟩
set_option maxRecDepth 100000 in
theorem linked_z {w : World} {c : Nat} (h : ZC w c) {i p : Int} (hi : W64 i) (hp : W64 p) : Calls Try.prog 17 #[.pointer (some ⟨c, 0, none⟩), .int .i64 i, .int .i64 p] w fun e w' => e = .returned (.tuple #[.int .i64 0, .bool false]) ∧ Fr [] w w' := by
  have k5 : w.cell? ⟨c, 5, none⟩ = some (.map none) := at_cells h 5 rfl
  have hl := look62n hi hp
  clear h
  go_enter Try.func17, Try.ntmps17
  go_wp2
  exact bodyPost_ret (results_tmp2 rfl _ _ _) rfl ⟨rfl, Fr.refl _ _⟩
set_option maxRecDepth 100000 in
theorem holds_z {w : World} {c : Nat} (h : ZC w c) (i : Int) : Calls Try.prog 35 #[.pointer (some ⟨c, 0, none⟩), .int .i64 i] w fun e w' => e = .returned (.bool false) ∧ Fr [] w w' := by
  have k3 : w.cell? ⟨c, 3, none⟩ = some (.slice none 0 0) := at_cells h 3 rfl
  have C0 := bs52_any (L := []) (B := 0) (w := w) (i, k00) (World.ownsRow_nil _ _ _ _) (by simp [Srt]) (by simp)
  have C : Calls Try.prog 52 #[.slice none 0 0, .agg (mcp (i, k00)).toArray, .func (.func 33) #[] #[]] w fun e w' => ∃ i' : Int, e = .returned (.tuple #[.int .i64 i', .bool false]) ∧ Fr [] w w' := C0
  clear h C0
  go_enter Try.func35, Try.ntmps35
  go_wp2_with (go_at_call 52; refine C.mono ?_; rintro e w1 ⟨i', rfl, f1⟩)
  go_ret
  exact ⟨rfl, f1⟩
set_option maxRecDepth 100000 in
theorem fail_n {w : World} {i p : Int} : Calls Try.prog 19 #[.pointer none, .int .i64 i, .int .i64 p] w fun e w' => e = .returned (.int .i64 0) ∧ Fr [] w w' := by
  go_enter Try.func19, Try.ntmps19
  go_wp2
  go_ret
  exact ⟨rfl, Fr.refl _ _⟩
set_option maxRecDepth 100000 in
theorem fail_z {w : World} {c : Nat} (h : ZC w c) {i p : Int} : Calls Try.prog 19 #[.pointer (some ⟨c, 0, none⟩), .int .i64 i, .int .i64 p] w fun e w' => e = .returned (.int .i64 0) ∧ Fr [] w w' := by
  have C := holds_z h i
  clear h
  go_enter Try.func19, Try.ntmps19
  go_wp2_with (go_at_call 35; refine C.mono ?_; rintro e w1 ⟨rfl, f1⟩)
  go_ret
  exact ⟨rfl, f1⟩
set_option maxRecDepth 100000 in
theorem link_n {w : World} {i p t : Int} : Calls Try.prog 20 #[.pointer none, .int .i64 i, .int .i64 p, .int .i64 t] w fun e w' => e = .returned (.int .i64 3) ∧ Fr [] w w' := by
  go_enter Try.func20, Try.ntmps20
  go_wp2
  go_ret
  exact ⟨rfl, Fr.refl _ _⟩
set_option maxRecDepth 100000 in
theorem link_z {w : World} {c : Nat} (h : ZC w c) {i p t : Int} : Calls Try.prog 20 #[.pointer (some ⟨c, 0, none⟩), .int .i64 i, .int .i64 p, .int .i64 t] w fun e w' => e = .returned (.int .i64 3) ∧ Fr [] w w' := by
  have C := holds_z h i
  clear h
  go_enter Try.func20, Try.ntmps20
  go_wp2_with (go_at_call 35; refine C.mono ?_; rintro e w1 ⟨rfl, f1⟩)
  go_ret
  exact ⟨rfl, f1⟩
set_option maxRecDepth 100000 in
theorem keys_n {w : World}  : Calls Try.prog 13 #[.pointer none] w fun e w' => e = .returned (.slice none 0 0) ∧ Fr [] w w' := by
  go_enter Try.func13, Try.ntmps13
  go_wp2
  go_ret
  exact ⟨rfl, Fr.refl _ _⟩
set_option maxRecDepth 100000 in
theorem keys_z {w : World} {c : Nat} (h : ZC w c) : Calls Try.prog 13 #[.pointer (some ⟨c, 0, none⟩)] w fun e w' => e = .returned (.slice none 0 0) ∧ Fr [] w w' := by
  have k3 : w.cell? ⟨c, 3, none⟩ = some (.slice none 0 0) := at_cells h 3 rfl
  clear h
  go_enter Try.func13, Try.ntmps13
  go_wp2
  go_loopw [3, 13] (fun kv i wr => kv = .slice none 0 0 ∧ i = .int .i64 0 ∧ wr = w) (fun _ _ _ => 0)
  case atStart => exact ⟨rfl, rfl, rfl⟩
  case round =>
    obtain ⟨rfl, rfl, rfl⟩ := hrel
    go_wp2
    go_ret
    exact ⟨rfl, Fr.refl _ _⟩
set_option maxRecDepth 100000 in
theorem put_n {w : World} {t : Tr} : Calls Try.prog 14 #[.pointer none, .agg t.arr] w fun e w' => e = .returned (.int .i64 (-1)) ∧ Fr [] w w' := by
  have F1 : Hid (Fr [] w (w.alloc (.cells t.arr 35))) := (Fr.refl _ _).alloc _
  go_enter Try.func14, Try.ntmps14
  go_upto_region 1 with fail
  generalize w.alloc (.cells t.arr 35) = V at *
  go_wp2
  go_ret
  exact ⟨rfl, F1.out⟩
set_option maxRecDepth 100000 in
theorem put_z {w : World} {c : Nat} (h : ZC w c) {t : Tr} : Calls Try.prog 14 #[.pointer (some ⟨c, 0, none⟩), .agg t.arr] w fun e w' => e = .returned (.int .i64 (-1)) ∧ Fr [] w w' := by
  have F1 : Hid (Fr [] w (w.alloc (.cells t.arr 35))) := (Fr.refl _ _).alloc _
  have k0 : (w.alloc (.cells t.arr 35)).cell? ⟨c, 0, none⟩ = some (.int .i64 0) := at_cells (h.fr0 F1.out) 0 rfl
  clear h
  go_enter Try.func14, Try.ntmps14
  go_upto_region 1 with fail
  generalize w.alloc (.cells t.arr 35) = V at *
  go_wp2
  go_ret
  exact ⟨rfl, F1.out⟩
set_option maxRecDepth 100000 in
theorem drop_n {w : World} {k : Ky} : Calls Try.prog 18 #[.pointer none, .agg (kc k)] w fun e w' => e = .returned (.bool false) ∧ Fr [] w w' := by
  have F1 : Hid (Fr [] w (w.alloc (.cells (kc k) 29))) := (Fr.refl _ _).alloc _
  go_enter Try.func18, Try.ntmps18
  go_upto_region 1 with fail
  generalize w.alloc (.cells (kc k) 29) = V at *
  go_wp2
  go_ret
  exact ⟨rfl, F1.out⟩
theorem drop_z {w : World} {c : Nat} (h : ZC w c) {k : Ky} (hk : kw k) : Calls Try.prog 18 #[.pointer (some ⟨c, 0, none⟩), .agg (kc k)] w fun e w' => e = .returned (.bool false) ∧ Fr [] w w' :=
  drop_core (mv := none) (r0 := (0, tr0)) (fun w' f => at_cells (h.fr0 f) 2 rfl) (fun w' f => look60n hk w')
theorem get_z {w : World} {c : Nat} (h : ZC w c) {k : Ky} (hk : kw k) : Calls Try.prog 15 #[.pointer (some ⟨c, 0, none⟩), .agg (kc k)] w fun e w' => ∃ t' : Tr, e = .returned (.tuple #[.agg t'.arr, .int .i64 0, .bool false]) ∧ Fr [] w w' :=
  (get_core (mv := none) (B := 0) (r0 := (0, tr0)) (is := false) (fun w' f => at_cells (h.fr0 f) 2 rfl) (fun w' f => look60n hk w') (tr0_ok _ _) (Nat.zero_le _)).mono (fun e w' ⟨t', h1, _, _, h2⟩ => ⟨t', h1, h2⟩)
set_option maxRecDepth 100000 in
theorem get_n {w : World} {k : Ky} : Calls Try.prog 15 #[.pointer none, .agg (kc k)] w fun e w' => ∃ t' : Tr, e = .returned (.tuple #[.agg t'.arr, .int .i64 0, .bool false]) ∧ Fr [] w w' := by
  have HY : Hid (((w.alloc (.cells (kc k) 29)).alloc (.cells #[.int .i64 0, .int .i64 0, .int .i64 0, .int .i64 0, .int .i64 0, .int .i64 0, .int .i64 0, .int .i64 0, .int .i64 0, .int .i64 0, .int .i64 0, .int .i64 0, .slice none 0 0, .slice none 0 0, .slice none 0 0, .slice none 0 0, .slice none 0 0] 35)).heap[w.heap.size + 1]? = some (.cells #[.int .i64 0, .int .i64 0, .int .i64 0, .int .i64 0, .int .i64 0, .int .i64 0, .int .i64 0, .int .i64 0, .int .i64 0, .int .i64 0, .int .i64 0, .int .i64 0, .slice none 0 0, .slice none 0 0, .slice none 0 0, .slice none 0 0, .slice none 0 0] 35 (0, 0))) := blk2 w _ _
  have HF : Hid (Fr [] w (((w.alloc (.cells (kc k) 29)).alloc (.cells #[.int .i64 0, .int .i64 0, .int .i64 0, .int .i64 0, .int .i64 0, .int .i64 0, .int .i64 0, .int .i64 0, .int .i64 0, .int .i64 0, .int .i64 0, .int .i64 0, .slice none 0 0, .slice none 0 0, .slice none 0 0, .slice none 0 0, .slice none 0 0] 35)).setRow (w.heap.size + 1) tr0.arr)) := (((Fr.refl _ _).alloc _).alloc _).setRow (.inr (by omega)) _
  go_enter Try.func15, Try.ntmps15
  go_upto_region 1 with fail
  generalize (w.alloc (.cells (kc k) 29)).alloc (.cells #[.int .i64 0, .int .i64 0, .int .i64 0, .int .i64 0, .int .i64 0, .int .i64 0, .int .i64 0, .int .i64 0, .int .i64 0, .int .i64 0, .int .i64 0, .int .i64 0, .slice none 0 0, .slice none 0 0, .slice none 0 0, .slice none 0 0, .slice none 0 0] 35) = V at *
  have HB : Hid ((V.setRow (w.heap.size + 1) tr0.arr).heap[w.heap.size + 1]? = some (.cells tr0.arr 35 (0, 0))) := setRow_heap V (w.heap.size + 1) _ tr0.arr _ _ HY.out
  generalize w.heap.size + 1 = kb at *
  go_wp2_with (refine wpList_store_row rfl 35 (.tmp 4) (.tmp 11) rfl kb tr0.arr rfl rfl 35 _ HY.out (by rw [tr0.arr_size]; exact info35) (by rw [tr0.arr_size]; rfl) tr0.arr_one ?_)
  exact bodyPost_ret (results35c res15 tr0.arr_size rfl HB.out) rfl ⟨tr0, rfl, HF.out⟩
end Go.Proofs.Ytnhjplfdfbbihaa
