/-
  The trace with a key, its number; condition: the cache lies as told.
-/
import Derived.Test.YtnhjplfdfbbihaaCbI
namespace Go.Proofs.Ytnhjplfdfbbihaa
open Go.RowKit Go.Shelf Go.Maps Go.ChangeShapes
set_option linter.unusedVariables false
set_option linter.unusedSimpArgs false
theorem tr0_ok (w : World) (B : Nat) : TrOk w B tr0 := ⟨SL.nil _ _ _ _ rfl, SL.nil _ _ _ _ rfl, by simp [tr0], SL.nil _ _ _ _ rfl, by simp [tr0], SL.nil _ _ _ _ rfl, by simp [tr0], SL.nil _ _ _ _ rfl⟩
theorem results35c {fn : Func} {p q r : Tmp} (h : fn.results = #[.cell p 35, .tmp q, .tmp r]) {tmps : Array Value} {w : World} {g : Nat} {A : Array Value} (hA : A.size = 17) (hp : tmps.getD p undef = .pointer (some ⟨g, 0, none⟩)) (hg : w.heap[g]? = some (.cells A 35 (0, 0))) : (results fn tmps).run Try.prog w = .ok (.tuple #[.agg A, tmps.getD q undef, tmps.getD r undef]) w := by
  have hp' : tmps[p]?.getD undef = .pointer (some ⟨g, 0, none⟩) := by simpa using hp
  simp [results, h, hp', asAddr, run_loadVar_row w g 35 35 A (0, 0) _ hg Try.underlying35 rfl (by rw [hA]; exact info35), Sem.run_bind, Result.andThen]
theorem tr_range88 {w : World} {b : Nat} {r : Rt} (h : w.heap[b]? = some (.cells (evl r).toArray 88 (0, 0))) : w.rangeAt b 1 r.2.cl := fun j v hv => by
  rw [Nat.add_comm]
  refine at_cells h (j + 1) ?_
  simpa [evl] using hv
theorem res15 : Try.f15.results = #[.cell 4 35, .tmp 5, .tmp 6] := by kernel_rfl
def getB (S : Bk) (k : Ky) : Option (Int × AT) := S.rows.find? (fun r => decide (r.2.k = k))
theorem fnd_get {rs : List Rt} {S : Bk} (h : rs.map absR = S.rows) (k : Ky) : getB S k = (fnd rs k).map absR := by
  unfold getB fnd
  rw [← h, List.find?_map]
  rfl
set_option maxRecDepth 100000 in
set_option maxHeartbeats 4000000 in
theorem get_any {w : World} {B c n : Nat} {rs : List Rt} {S : Bk} (h : CA w B c n rs S) (hBw : B ≤ w.heap.size) {k : Ky} (hk : kw k) :
    Calls Try.prog 15 #[.pointer (some ⟨c, 0, none⟩), .agg (kc k)] w fun e w' => ∃ t' : Tr, e = .returned (.tuple #[.agg t'.arr, .int .i64 (((getB S k).map (·.1)).getD 0), .bool (getB S k).isSome]) ∧ t'.abs = ((getB S k).map (·.2)).getD tr0.abs ∧ TrOk w' B t' ∧ Fr [] w w' := by
  have F1 : Fr [] w ((w.alloc (.cells (kc k) 29)).alloc (.cells #[.int .i64 0, .int .i64 0, .int .i64 0, .int .i64 0, .int .i64 0, .int .i64 0, .int .i64 0, .int .i64 0, .int .i64 0, .int .i64 0, .int .i64 0, .int .i64 0, .slice none 0 0, .slice none 0 0, .slice none 0 0, .slice none 0 0, .slice none 0 0] 35)) := ((Fr.refl _ _).alloc _).alloc _
  have h1 := h.fr0 F1
  have hx := (((Fr.refl [] (w.alloc (.cells (kc k) 29))).alloc (.cells #[.int .i64 0, .int .i64 0, .int .i64 0, .int .i64 0, .int .i64 0, .int .i64 0, .int .i64 0, .int .i64 0, .int .i64 0, .int .i64 0, .int .i64 0, .int .i64 0, .slice none 0 0, .slice none 0 0, .slice none 0 0, .slice none 0 0, .slice none 0 0] 35)).block _ (by simp) (by simp)).trans (heap_alloc_new w (.cells (kc k) 29))
  have hy : ((w.alloc (.cells (kc k) 29)).alloc (.cells #[.int .i64 0, .int .i64 0, .int .i64 0, .int .i64 0, .int .i64 0, .int .i64 0, .int .i64 0, .int .i64 0, .int .i64 0, .int .i64 0, .int .i64 0, .int .i64 0, .slice none 0 0, .slice none 0 0, .slice none 0 0, .slice none 0 0, .slice none 0 0] 35)).heap[w.heap.size + 1]? = _ := blk2 w _ _
  have hget := fnd_get h.abs k
  go_enter Try.func15, Try.ntmps15
  go_upto_region 3 with fail
  generalize (w.alloc (.cells (kc k) 29)).alloc (.cells #[.int .i64 0, .int .i64 0, .int .i64 0, .int .i64 0, .int .i64 0, .int .i64 0, .int .i64 0, .int .i64 0, .int .i64 0, .int .i64 0, .int .i64 0, .int .i64 0, .slice none 0 0, .slice none 0 0, .slice none 0 0, .slice none 0 0, .slice none 0 0] 35) = V at *
  generalize hkb : w.heap.size = kb at *
  obtain ⟨pa, pcap, hb, ov, fb, lb, hp⟩ := h1.ex
  obtain ⟨r0, hr0⟩ : ∃ r0, r0 = (fnd rs k).getD (0, tr0) := ⟨_, rfl⟩
  obtain ⟨is, his⟩ : ∃ is, is = (fnd rs k).isSome := ⟨_, rfl⟩
  have L1 : Hid (∀ w', Fr [] V w' → w'.rangeAt kb 0 (kc k).toList) := fun w' f => range_block ((f.block _ (Array.getElem?_eq_some_iff.1 hx).1 (by simp)).trans hx)
  have L2 : Hid (∀ w', Fr [] V w' → w'.cell? ⟨c, 2, none⟩ = some (.map (some hb))) := fun w' f => f.cellNew hp.blk (by simp) rfl
  have L5 : Hid (∀ w', Fr [] V w' → (Instr.lookup 60 (.map (some hb)) (.agg (kc k)) true).run Try.prog w' = .ok (.tuple #[ev r0, .bool is]) w') := fun w' f => by rw [hr0, his]; exact (hp.held.fr f (by simp)).lookOk hk
  have HT : Hid (TrOk V B r0.2) := by
    show TrOk V B r0.2
    rw [hr0]
    cases hf : fnd rs k with
    | none => exact tr0_ok _ _
    | some r => exact hp.trs r (fnd_some hf).1
  have HE : Hid (((getB S k).map (·.1)).getD 0 = r0.1 ∧ (getB S k).isSome = is ∧ ((getB S k).map (·.2)).getD tr0.abs = r0.2.abs) := by
    show _ ∧ _ ∧ _
    rw [hget, hr0, his]
    cases hf : fnd rs k with
    | none => exact ⟨rfl, rfl, rfl⟩
    | some r => exact ⟨rfl, rfl, rfl⟩
  have HY : Hid (V.heap[kb + 1]? = some (.cells #[.int .i64 0, .int .i64 0, .int .i64 0, .int .i64 0, .int .i64 0, .int .i64 0, .int .i64 0, .int .i64 0, .int .i64 0, .int .i64 0, .int .i64 0, .int .i64 0, .slice none 0 0, .slice none 0 0, .slice none 0 0, .slice none 0 0, .slice none 0 0] 35 (0, 0))) := hy
  have HF : Hid (Fr [] w V ∧ B ≤ V.heap.size ∧ w.heap.size ≤ kb ∧ B ≤ kb) := ⟨F1, by have := F1.size; omega, by omega, hBw⟩
  clear h h1 hp hBw hr0 his hx hy hkb hk hget F1
  refine reg_in (fun w' => Fr [] V w') ?_
  have hS : Fr [] V V.drew := (Fr.refl _ _).drew
  have hSY := hS
  generalize V.drew = Y at *
  refine tk 0 (some 13) (.pointer (some ⟨c, 0, none⟩)) rfl rfl (Or.inl ⟨rfl, fun wq hSq => by first | rfl | go_simp⟩) (by decide +kernel) hS ?_
  simp only [Act.put, List.setIfInBounds_toArray, List.set_cons_zero, List.set_cons_succ]
  refine tk 1 (some 14) (.pointer (some ⟨c, 0, none⟩)) rfl rfl (Or.inl ⟨rfl, fun wq hSq => by first | rfl | go_simp⟩) (by decide +kernel) hS ?_
  simp only [Act.put, List.setIfInBounds_toArray, List.set_cons_zero, List.set_cons_succ]
  refine tk 2 (some 15) (.pointer (some ⟨c, 2, none⟩)) rfl rfl (Or.inl ⟨rfl, fun wq hSq => by first | rfl | go_simp⟩) (by decide +kernel) hS ?_
  simp only [Act.put, List.setIfInBounds_toArray, List.set_cons_zero, List.set_cons_succ]
  refine tk 3 (some 16) (.map (some hb)) rfl rfl (Or.inl ⟨rfl, fun wq hSq => by have q := L2.out wq hSq; go_simp⟩) (by decide +kernel) hS ?_
  simp only [Act.put, List.setIfInBounds_toArray, List.set_cons_zero, List.set_cons_succ]
  refine tk 4 (some 17) (.agg (kc k)) rfl rfl ?_ (by decide +kernel) hS ?_
  · exact yieldsIf_load_mid rfl 29 (.tmp 3) rfl kb 0 rfl (kc k).toList _ (fun wq hSq => L1.out wq hSq) Try.underlying29 rfl (by rw [info29]; simp [kc_size])
  simp only [Act.put, List.setIfInBounds_toArray, List.set_cons_zero, List.set_cons_succ]
  refine tk 5 (some 18) (.tuple #[ev r0, .bool is]) rfl rfl (Or.inl ⟨rfl, fun wq hSq => by have q := L5.out wq hSq; go_simp⟩) (by decide +kernel) hS ?_
  simp only [Act.put, List.setIfInBounds_toArray, List.set_cons_zero, List.set_cons_succ]
  refine tk 6 (some 12) (.tuple #[ev r0, .bool is]) rfl rfl (Or.inl ⟨rfl, fun wq hSq => by first | rfl | go_simp⟩) (by decide +kernel) hS ?_
  simp only [Act.put, List.setIfInBounds_toArray, List.set_cons_zero, List.set_cons_succ]
  refine tk 7 (some 19) (ev r0) rfl rfl (Or.inl ⟨rfl, fun wq hSq => by go_simp⟩) (by decide +kernel) hS ?_
  simp only [Act.put, List.setIfInBounds_toArray, List.set_cons_zero, List.set_cons_succ]
  refine tk 8 (some 20) (.bool is) rfl rfl (Or.inl ⟨rfl, fun wq hSq => by go_simp⟩) (by decide +kernel) hS ?_
  simp only [Act.put, List.setIfInBounds_toArray, List.set_cons_zero, List.set_cons_succ]
  refine wpAnyH_ready (rs := [9]) (by decide +kernel) (by simp) ?_
  refine AllReadyH.cons rfl (fun K hK => ?_) AllReadyH.nil
  go_simp
  have hS := hS.alloc (.cells #[.int .i64 0, .int .i64 0, .int .i64 0, .int .i64 0, .int .i64 0, .int .i64 0, .int .i64 0, .int .i64 0, .int .i64 0, .int .i64 0, .int .i64 0, .int .i64 0, .int .i64 0, .slice none 0 0, .slice none 0 0, .slice none 0 0, .slice none 0 0, .slice none 0 0] 88)
  have bE := heap_alloc_new Y (.cells #[.int .i64 0, .int .i64 0, .int .i64 0, .int .i64 0, .int .i64 0, .int .i64 0, .int .i64 0, .int .i64 0, .int .i64 0, .int .i64 0, .int .i64 0, .int .i64 0, .int .i64 0, .slice none 0 0, .slice none 0 0, .slice none 0 0, .slice none 0 0, .slice none 0 0] 88)
  have hE : V.heap.size ≤ Y.heap.size := hSY.size
  generalize Y.alloc (.cells #[.int .i64 0, .int .i64 0, .int .i64 0, .int .i64 0, .int .i64 0, .int .i64 0, .int .i64 0, .int .i64 0, .int .i64 0, .int .i64 0, .int .i64 0, .int .i64 0, .int .i64 0, .slice none 0 0, .slice none 0 0, .slice none 0 0, .slice none 0 0, .slice none 0 0] 88) = Y1 at *
  generalize Y.heap.size = ne at *
  refine hK.out _ _ hS (fun _ => ?_)
  clear hK K
  try simp only [List.getElem_toArray, List.getElem_cons_succ, List.getElem_cons_zero, Act.put, List.setIfInBounds_toArray, List.set_cons_zero, List.set_cons_succ]
  refine wpAnyH_ready (rs := [10]) (by decide +kernel) (by simp) ?_
  refine AllReadyH.cons rfl (fun K hK => ?_) AllReadyH.nil
  refine wp_store_row 88 (.tmp 7) (.tmp 19) rfl ne (evl r0).toArray rfl rfl 88 _ bE (by rw [info88, evl_size]) (by rw [evl_size]; rfl) (evl_one r0) ?_
  have bE := setRow_heap Y1 ne _ (evl r0).toArray _ _ bE
  have hS := hS.setRow (g := ne) (.inr hE) (evl r0).toArray
  generalize Y1.setRow ne (evl r0).toArray = Z at *
  refine hK.out _ _ hS (fun _ => ?_)
  clear hK K
  try simp only [List.getElem_toArray, List.getElem_cons_succ, List.getElem_cons_zero, Act.put, List.setIfInBounds_toArray, List.set_cons_zero, List.set_cons_succ]
  refine tk 11 (some 8) (.bool is) rfl rfl (Or.inl ⟨rfl, fun wq hSq => by first | rfl | go_simp⟩) (by decide +kernel) hS ?_
  simp only [Act.put, List.setIfInBounds_toArray, List.set_cons_zero, List.set_cons_succ]
  refine wpAnyH_done (by decide +kernel) ?_ _
  refine plain_end ?_
  have hyZ := (hS.block _ (Array.getElem?_eq_some_iff.1 HY.out).1 (by simp)).trans HY.out
  have hek : ne ≠ kb + 1 := by have := (Array.getElem?_eq_some_iff.1 HY.out).1; omega
  have M1 : Hid (∀ w', Fr [kb + 1] Z w' → w'.rangeAt ne 1 r0.2.cl) := fun w' f => tr_range88 ((f.block _ (Array.getElem?_eq_some_iff.1 bE).1 (by simpa using hek)).trans bE)
  have M2 : Hid (∀ w', Fr [kb + 1] Z w' → w'.cell? ⟨ne, 0, none⟩ = some (.int .i64 r0.1)) := fun w' f => f.cellNew bE (by simpa using hek) rfl
  have HYZ : Hid (Z.heap[kb + 1]? = some (.cells #[.int .i64 0, .int .i64 0, .int .i64 0, .int .i64 0, .int .i64 0, .int .i64 0, .int .i64 0, .int .i64 0, .int .i64 0, .int .i64 0, .int .i64 0, .int .i64 0, .slice none 0 0, .slice none 0 0, .slice none 0 0, .slice none 0 0, .slice none 0 0] 35 (0, 0))) := hyZ
  have HT1 : Hid (TrOk Z B r0.2) := HT.out.fr0 hS
  have HB1 : Hid (B ≤ Z.heap.size) := Nat.le_trans HF.out.2.1 hS.size
  have HZ : Hid (Fr [] w Z) := HF.out.1.trans hS
  clear hS hSY hE bE hyZ L1 L2 L5 HT HY
  go_upto_region 4 with fail
  refine reg_in (fun w' => Fr [kb + 1] Z w') ?_
  have hS0 : Fr [] Z Z.drew := (Fr.refl _ _).drew
  have hS : Fr [kb + 1] Z Z.drew := hS0.sub (by simp)
  generalize Z.drew = U at *
  refine tk 0 (some 21) (.pointer (some ⟨ne, 1, none⟩)) rfl rfl (Or.inl ⟨rfl, fun wq hSq => by first | rfl | go_simp⟩) (by decide +kernel) hS ?_
  simp only [Act.put, List.setIfInBounds_toArray, List.set_cons_zero, List.set_cons_succ]
  refine tk 1 (some 22) (.agg r0.2.arr) rfl rfl ?_ (by decide +kernel) hS ?_
  · exact yieldsIf_load_mid rfl 35 (.tmp 21) rfl ne 1 rfl r0.2.cl _ (fun wq hSq => M1.out wq hSq) Try.underlying35 rfl (by rw [Tr.cl_len]; exact info35)
  simp only [Act.put, List.setIfInBounds_toArray, List.set_cons_zero, List.set_cons_succ]
  refine tk 3 (some 24) (.pointer (some ⟨ne, 0, none⟩)) rfl rfl (Or.inl ⟨rfl, fun wq hSq => by first | rfl | go_simp⟩) (by decide +kernel) hS ?_
  simp only [Act.put, List.setIfInBounds_toArray, List.set_cons_zero, List.set_cons_succ]
  refine tk 4 (some 25) (.int .i64 r0.1) rfl rfl (Or.inl ⟨rfl, fun wq hSq => by have q := M2.out wq hSq; go_simp⟩) (by decide +kernel) hS ?_
  simp only [Act.put, List.setIfInBounds_toArray, List.set_cons_zero, List.set_cons_succ]
  refine tk 5 (some 26) (.bool is) rfl rfl (Or.inl ⟨rfl, fun wq hSq => by first | rfl | go_simp⟩) (by decide +kernel) hS ?_
  simp only [Act.put, List.setIfInBounds_toArray, List.set_cons_zero, List.set_cons_succ]
  refine wpAnyH_ready (rs := [2]) (by decide +kernel) (by simp) ?_
  refine AllReadyH.cons rfl (fun K hK => ?_) AllReadyH.nil
  go_simp
  refine (copied_any (HT1.out.fr0 hS0) (Nat.le_trans HB1.out hS0.size)).mono ?_
  rintro e Y2 ⟨t', rfl, ha', hT', f1⟩
  have hS0 := hS0.trans f1
  have hS : Fr [kb + 1] Z Y2 := hS0.sub (by simp)
  have HT2 : Hid (t'.abs = r0.2.abs ∧ TrOk Y2 B t') := ⟨ha', hT'⟩
  have hyY := (hS0.block _ (Array.getElem?_eq_some_iff.1 HYZ.out).1 (by simp)).trans HYZ.out
  clear f1 ha' hT'
  refine hK.out _ _ hS (fun _ => ?_)
  clear hK K
  try simp only [List.getElem_toArray, List.getElem_cons_succ, List.getElem_cons_zero, Act.put, List.setIfInBounds_toArray, List.set_cons_zero, List.set_cons_succ]
  refine wpAnyH_ready (rs := [6]) (by decide +kernel) (by simp) ?_
  refine AllReadyH.cons rfl (fun K hK => ?_) AllReadyH.nil
  refine wp_store_row 35 (.tmp 4) (.tmp 23) rfl (kb + 1) t'.arr rfl rfl 35 _ hyY (by rw [t'.arr_size]; exact info35) (by rw [t'.arr_size]; rfl) t'.arr_one ?_
  have hyQ := setRow_heap Y2 (kb + 1) _ t'.arr _ _ hyY
  have hS3 : Fr [kb + 1] Z (Y2.setRow (kb + 1) t'.arr) := hS.setRow (.inl (by simp)) _
  have HQ : Hid (TrOk (Y2.setRow (kb + 1) t'.arr) B t') := HT2.out.2.fr (S := [kb + 1]) ((Fr.refl _ _).setRow (.inl (by simp)) _) (away_cells hyY rfl (by have := HF.out.2.2.2; omega))
  generalize Y2.setRow (kb + 1) t'.arr = Q at *
  have hS := hS3
  refine hK.out _ _ hS (fun _ => ?_)
  clear hK K
  try simp only [List.getElem_toArray, List.getElem_cons_succ, List.getElem_cons_zero, Act.put, List.setIfInBounds_toArray, List.set_cons_zero, List.set_cons_succ]
  refine tk 7 (some 5) (.int .i64 r0.1) rfl rfl (Or.inl ⟨rfl, fun wq hSq => by first | rfl | go_simp⟩) (by decide +kernel) hS ?_
  simp only [Act.put, List.setIfInBounds_toArray, List.set_cons_zero, List.set_cons_succ]
  refine tk 8 (some 6) (.bool is) rfl rfl (Or.inl ⟨rfl, fun wq hSq => by first | rfl | go_simp⟩) (by decide +kernel) hS ?_
  simp only [Act.put, List.setIfInBounds_toArray, List.set_cons_zero, List.set_cons_succ]
  refine wpAnyH_done (by decide +kernel) ?_ _
  refine plain_end ?_
  have HFF : Hid (Fr [] w Q) := ((HZ.out.sub (T := [kb + 1]) (by simp)).trans hS).sub (fun j hj => by
    have : j = kb + 1 := by simpa using hj
    have := HF.out.2.2.1
    right; omega)
  have HQQ : Hid (Q.heap[kb + 1]? = some (.cells t'.arr 35 (0, 0))) := hyQ
  clear hS hS0 hS3 hyY hyQ M1 M2 HYZ HT1 HB1 HZ hek
  go_wp2
  refine bodyPost_ret (results35c res15 t'.arr_size rfl HQQ.out) rfl ⟨t', ?_, ?_, HQ.out, HFF.out⟩
  · rw [HE.out.1, HE.out.2.1]; rfl
  · rw [HE.out.2.2]; exact HT2.out.1
end Go.Proofs.Ytnhjplfdfbbihaa
