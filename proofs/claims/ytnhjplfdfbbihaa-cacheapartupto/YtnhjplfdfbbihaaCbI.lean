/-
  Whether a trace with a key is held; it goes; condition: the cache lies as told.
-/
import Derived.Test.YtnhjplfdfbbihaaCbH
import Derived.Test.YtnhjplfdfbbihaaCaS
import Derived.Test.YtnhjplfdfbbihaaCaF
import Derived.Test.YtnhjplfdfbbihaaCaT
namespace Go.Proofs.Ytnhjplfdfbbihaa
open Go.RowKit Go.Shelf Go.Maps Go.ChangeShapes
set_option linter.unusedVariables false
set_option linter.unusedSimpArgs false
theorem info88 : (Try.prog.info? 88).map (·.size) = some 18 := by kernel_rfl
theorem evl_size (r : Rt) : (evl r).toArray.size = 18 := by simp [evl_len]
theorem evl_one (r : Rt) : (evl r).toArray.all (·.oneCell') = true := by
  rw [Array.all_eq_true_iff_forall_mem]
  intro u hu
  rcases List.mem_cons.1 (show u ∈ evl r by simpa using hu) with rfl | h
  · rfl
  · exact r.2.cl_one u h
set_option maxRecDepth 100000 in
theorem build83 (i : Int) (k : Ky) (w : World) : (Instr.build 83 #[(0, .int .i64 i), (1, .agg (kc k))]).run Try.prog w = .ok (.agg (mcp (i, k)).toArray) w := by
  obtain ⟨a, b, c, d, e, f, g, h, x, j⟩ := k
  exact run_build w 83 _ _ (by kernel_rfl)
theorem built83 (i : Int) (k : Ky) : Try.prog.built 83 [(0, .int .i64 i), (1, .agg (kc k))] = some (mcp (i, k)).toArray := by
  obtain ⟨a, b, c, d, e, f, g, h, x, j⟩ := k
  kernel_rfl
theorem wpList_build83 {ops : Array Oper} {rest : List Oper} {o : Oper} {a : Act} {w : World} {Q : Exit → Act → World → Prop} (hgd : o.guard = none) (x y : Operand) (ho : o.op = .build 83 #[(0, x), (1, y)]) (i : Int) (k : Ky) (hx : a.eval x = .int .i64 i) (hy : a.eval y = .agg (kc k))
    (h : wpList Try.prog ops Q rest (a.put o.dst (.agg (mcp (i, k)).toArray)) w) : wpList Try.prog ops Q (o :: rest) a w := by
  have e : Try.prog.built 83 (#[(0, x), (1, y)].map fun (i, x) => (i, a.eval x)).toList = some (mcp (i, k)).toArray := by
    have : (#[(0, x), (1, y)].map fun (i, x) => (i, a.eval x)).toList = [(0, a.eval x), (1, a.eval y)] := by simp
    rw [this, hx, hy, built83]
  refine wpList_build hgd 83 _ ho (by rw [e]; rfl) ?_
  rw [e]
  exact h
theorem fnd_kf {rs : List Rt} {S : Bk} (h : rs.map absR = S.rows) (k : Ky) : (fnd rs k = none ∧ kfind S.rows k = none) ∨ ∃ i r, rs[i]? = some r ∧ r.2.k = k ∧ fnd rs k = some r ∧ kfind S.rows k = some i := by
  have e : kfind S.rows k = rs.findIdx? (fun r => decide (r.2.k = k)) := by
    unfold kfind
    rw [← h, List.findIdx?_map]
    rfl
  rw [e]
  cases hf : rs.findIdx? (fun r => decide (r.2.k = k)) with
  | none =>
    refine .inl ⟨?_, rfl⟩
    rw [fnd_none]
    rw [List.findIdx?_eq_none_iff] at hf
    intro r hr
    simpa using hf r hr
  | some i =>
    rw [List.findIdx?_eq_some_iff_getElem] at hf
    obtain ⟨h1, h2, h3⟩ := hf
    refine .inr ⟨i, rs[i], List.getElem?_eq_getElem h1, by simpa using h2, ?_, rfl⟩
    unfold fnd
    rw [List.find?_eq_some_iff_getElem]
    refine ⟨h2, i, h1, rfl, fun j hj => ?_⟩
    simpa using h3 j hj
set_option maxRecDepth 100000 in
set_option maxHeartbeats 4000000 in
theorem drop_any {w : World} {B c n : Nat} {rs : List Rt} {S : Bk} (h : CA w B c n rs S) (ho : Ok S n) (hn : n ≤ 100000000000000) (hBw : B ≤ w.heap.size) {k : Ky} (hk : kw k) :
    Calls Try.prog 18 #[.pointer (some ⟨c, 0, none⟩), .agg (kc k)] w fun e w' => e = .returned (.bool (kfind S.rows k).isSome) ∧ (∃ rs', CA w' B c n rs' (dropB S k)) ∧ Gm B pP true w w' := by
  have F1 : Fr [] w (w.alloc (.cells (kc k) 29)) := (Fr.refl _ _).alloc _
  have h1 := h.fr0 F1
  have hx := heap_alloc_new w (.cells (kc k) 29)
  have habs := h.abs
  go_enter Try.func18, Try.ntmps18
  go_upto_region 3 with fail
  generalize w.alloc (.cells (kc k) 29) = V at *
  generalize hkb : w.heap.size = kb at *
  obtain ⟨pa, pcap, hb, ov, fb, lb, hp⟩ := h1.ex
  obtain ⟨r0, hr0⟩ : ∃ r0, r0 = (fnd rs k).getD (0, tr0) := ⟨_, rfl⟩
  obtain ⟨is, his⟩ : ∃ is, is = (fnd rs k).isSome := ⟨_, rfl⟩
  have L1 : Hid (∀ w', Fr [] V w' → w'.rangeAt kb 0 (kc k).toList) := fun w' f => range_block ((f.block _ (Array.getElem?_eq_some_iff.1 hx).1 (by simp)).trans hx)
  have L2 : Hid (∀ w', Fr [] V w' → w'.cell? ⟨c, 2, none⟩ = some (.map (some hb))) := fun w' f => f.cellNew hp.blk (by simp) rfl
  have L5 : Hid (∀ w', Fr [] V w' → (Instr.lookup 60 (.map (some hb)) (.agg (kc k)) true).run Try.prog w' = .ok (.tuple #[ev r0, .bool is]) w') := fun w' f => by rw [hr0, his]; exact (hp.held.fr f (by simp)).lookOk hk
  have HV : Hid (CA V B c n rs S) := h1
  have HE : Hid (rs.map absR = S.rows ∧ Ok S n ∧ n ≤ 100000000000000 ∧ B ≤ V.heap.size ∧ r0 = (fnd rs k).getD (0, tr0) ∧ is = (fnd rs k).isSome ∧ V.heap[kb]? = some (.cells (kc k) 29 (0, 0)) ∧ Fr [] w V) := ⟨habs, ho, hn, Nat.le_trans hBw (by rw [← hkb]; exact F1.size), hr0, his, hx, F1⟩
  clear h h1 hp habs ho hn hBw hr0 his hx F1 hkb hk
  refine reg_in (fun w' => Fr [] V w') ?_
  have hS : Fr [] V V.drew := (Fr.refl _ _).drew
  have hSY := hS
  generalize V.drew = Y at *
  refine tk 0 (some 10) (.pointer (some ⟨c, 0, none⟩)) rfl rfl (Or.inl ⟨rfl, fun wq hSq => by first | rfl | go_simp⟩) (by decide +kernel) hS ?_
  simp only [Act.put, List.setIfInBounds_toArray, List.set_cons_zero, List.set_cons_succ]
  refine tk 1 (some 11) (.pointer (some ⟨c, 0, none⟩)) rfl rfl (Or.inl ⟨rfl, fun wq hSq => by first | rfl | go_simp⟩) (by decide +kernel) hS ?_
  simp only [Act.put, List.setIfInBounds_toArray, List.set_cons_zero, List.set_cons_succ]
  refine tk 2 (some 12) (.pointer (some ⟨c, 2, none⟩)) rfl rfl (Or.inl ⟨rfl, fun wq hSq => by first | rfl | go_simp⟩) (by decide +kernel) hS ?_
  simp only [Act.put, List.setIfInBounds_toArray, List.set_cons_zero, List.set_cons_succ]
  refine tk 3 (some 13) (.map (some hb)) rfl rfl (Or.inl ⟨rfl, fun wq hSq => by have q := L2.out wq hSq; go_simp⟩) (by decide +kernel) hS ?_
  simp only [Act.put, List.setIfInBounds_toArray, List.set_cons_zero, List.set_cons_succ]
  refine tk 4 (some 14) (.agg (kc k)) rfl rfl ?_ (by decide +kernel) hS ?_
  · exact yieldsIf_load_mid rfl 29 (.tmp 3) rfl kb 0 rfl (kc k).toList _ (fun wq hSq => L1.out wq hSq) Try.underlying29 rfl (by rw [info29]; simp [kc_size])
  simp only [Act.put, List.setIfInBounds_toArray, List.set_cons_zero, List.set_cons_succ]
  refine tk 5 (some 15) (.tuple #[ev r0, .bool is]) rfl rfl (Or.inl ⟨rfl, fun wq hSq => by have q := L5.out wq hSq; go_simp⟩) (by decide +kernel) hS ?_
  simp only [Act.put, List.setIfInBounds_toArray, List.set_cons_zero, List.set_cons_succ]
  refine tk 6 (some 9) (.tuple #[ev r0, .bool is]) rfl rfl (Or.inl ⟨rfl, fun wq hSq => by first | rfl | go_simp⟩) (by decide +kernel) hS ?_
  simp only [Act.put, List.setIfInBounds_toArray, List.set_cons_zero, List.set_cons_succ]
  refine tk 7 (some 16) (ev r0) rfl rfl (Or.inl ⟨rfl, fun wq hSq => by go_simp⟩) (by decide +kernel) hS ?_
  simp only [Act.put, List.setIfInBounds_toArray, List.set_cons_zero, List.set_cons_succ]
  refine tk 8 (some 17) (.bool is) rfl rfl (Or.inl ⟨rfl, fun wq hSq => by go_simp⟩) (by decide +kernel) hS ?_
  simp only [Act.put, List.setIfInBounds_toArray, List.set_cons_zero, List.set_cons_succ]
  refine wpAnyH_ready (rs := [9]) (by decide +kernel) (by simp) ?_
  refine AllReadyH.cons rfl (fun K hK => ?_) AllReadyH.nil
  go_simp
  have hS := hS.alloc (.cells #[.int .i64 0, .int .i64 0, .int .i64 0, .int .i64 0, .int .i64 0, .int .i64 0, .int .i64 0, .int .i64 0, .int .i64 0, .int .i64 0, .int .i64 0, .int .i64 0, .int .i64 0, .slice none 0 0, .slice none 0 0, .slice none 0 0, .slice none 0 0, .slice none 0 0] 88)
  have bE := heap_alloc_new Y (.cells #[.int .i64 0, .int .i64 0, .int .i64 0, .int .i64 0, .int .i64 0, .int .i64 0, .int .i64 0, .int .i64 0, .int .i64 0, .int .i64 0, .int .i64 0, .int .i64 0, .int .i64 0, .slice none 0 0, .slice none 0 0, .slice none 0 0, .slice none 0 0, .slice none 0 0] 88)
  have hE : V.heap.size ≤ Y.heap.size := hSY.size
  generalize Y.alloc (.cells #[.int .i64 0, .int .i64 0, .int .i64 0, .int .i64 0, .int .i64 0, .int .i64 0, .int .i64 0, .int .i64 0, .int .i64 0, .int .i64 0, .int .i64 0, .int .i64 0, .int .i64 0, .slice none 0 0, .slice none 0 0, .slice none 0 0, .slice none 0 0, .slice none 0 0] 88) = Y1 at *
  generalize Y.heap.size = ne at *
  refine hK.out _ _ hS (fun _ => ?_)
  clear hK K
  try simp only [List.getElem_toArray, List.getElem_cons_succ, List.getElem_cons_zero, Act.put, List.setIfInBounds_toArray, List.set_cons_zero, List.set_cons_succ]
  refine wpAnyH_ready (rs := [10]) (by decide +kernel) (by simp) ?_
  refine AllReadyH.cons rfl (fun K hK => ?_) AllReadyH.nil
  refine wp_store_row 88 (.tmp 5) (.tmp 16) rfl ne (evl r0).toArray rfl rfl 88 _ bE (by rw [info88, evl_size]) (by rw [evl_size]; rfl) (evl_one r0) ?_
  have bE := setRow_heap Y1 ne _ (evl r0).toArray _ _ bE
  have hS := hS.setRow (g := ne) (.inr hE) (evl r0).toArray
  generalize Y1.setRow ne (evl r0).toArray = Z at *
  refine hK.out _ _ hS (fun _ => ?_)
  clear hK K
  try simp only [List.getElem_toArray, List.getElem_cons_succ, List.getElem_cons_zero, Act.put, List.setIfInBounds_toArray, List.set_cons_zero, List.set_cons_succ]
  refine tk 11 (some 6) (.bool is) rfl rfl (Or.inl ⟨rfl, fun wq hSq => by first | rfl | go_simp⟩) (by decide +kernel) hS ?_
  simp only [Act.put, List.setIfInBounds_toArray, List.set_cons_zero, List.set_cons_succ]
  refine wpAnyH_done (by decide +kernel) ?_ _
  refine plain_end ?_
  have HS : Hid (Fr [] V Z) := hS
  have HB : Hid (Z.heap[ne]? = some (.cells (evl r0).toArray 88 (0, 0))) := bE
  clear hS hSY hE bE L2 L5
  obtain ⟨habs, ho, hn, hBw, hr0, his, hx, F1⟩ := HE.out
  have h2 := HV.out.fr0 HS.out
  rcases fnd_kf habs k with ⟨e1, e2⟩ | ⟨i, r, hi, hrk, e1, e2⟩
  · rw [e1] at his
    simp only [Option.isSome_none] at his
    have hd : dropB S k = S := by unfold dropB; rw [e2]
    have HF : Hid (CA Z B c n rs (dropB S k) ∧ Fr [] w Z ∧ (kfind S.rows k).isSome = false) := ⟨by rw [hd]; exact h2, F1.trans HS.out, by rw [e2]; rfl⟩
    subst his
    clear habs ho hn hBw hr0 hx F1 h2 e1 e2 hd HS HB HE HV L1
    go_wp2
    go_ret
    exact ⟨by rw [HF.out.2.2]; rfl, ⟨rs, HF.out.1⟩, Gm.ofFr0 HF.out.2.1⟩
  · rw [e1] at his hr0
    simp only [Option.getD_some, Option.isSome_some] at his hr0
    subst his hr0 hrk
    have hd : dropB S r0.2.k = goneB S i := by unfold dropB; rw [e2]
    have C := letGo_any h2 ho hn (Nat.le_trans hBw HS.out.size) hi
    have HF : Hid (Fr [] w Z ∧ (kfind S.rows r0.2.k).isSome = true ∧ dropB S r0.2.k = goneB S i) := ⟨F1.trans HS.out, by rw [e2]; rfl, hd⟩
    have kE : Z.cell? ⟨ne, 0, none⟩ = some (.int .i64 r0.1) := at_cells HB.out 0 rfl
    have HL : Hid (Z.rangeAt kb 0 (kc r0.2.k).toList) := L1.out Z HS.out
    change Calls Try.prog 29 #[.pointer (some ⟨c, 0, none⟩), .agg (mcp (r0.1, r0.2.k)).toArray] Z _ at C
    clear habs ho hn hBw hx F1 h2 e1 e2 hd HS HB HE HV L1 hi
    go_upto_region 6 with (first
      | refine wpList_ld29 rfl (.tmp 3) rfl kb 0 rfl r0.2.k HL.out ?_
      | refine wpList_build83 rfl (.tmp 21) (.tmp 22) rfl r0.1 r0.2.k rfl rfl ?_
      | (go_at_call 29; refine C.mono ?_; rintro e w1 ⟨rfl, hca, hgm⟩; have HC : Hid (CA w1 B c n (rs.eraseIdx i) (goneB S i) ∧ Gm B pP true Z w1) := ⟨hca, hgm⟩; clear C hca hgm))
    go_wp2
    go_ret
    exact ⟨by rw [HF.out.2.1]; rfl, ⟨_, by rw [HF.out.2.2]; exact HC.out.1⟩, (Gm.ofFr0 HF.out.1).trans HC.out.2⟩
end Go.Proofs.Ytnhjplfdfbbihaa
