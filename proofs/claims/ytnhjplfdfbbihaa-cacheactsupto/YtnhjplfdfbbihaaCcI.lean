/-
  The document drops a trace, tells a trace; condition: the cache lies as told.
-/
import Derived.Test.YtnhjplfdfbbihaaCcH
namespace Go.Proofs.Ytnhjplfdfbbihaa
open Go.RowKit Go.Shelf Go.Maps Go.ChangeShapes
set_option linter.unusedVariables false
set_option linter.unusedSimpArgs false
theorem kfind_lt {rs : List Rt} {S : Bk} (h : rs.map absR = S.rows) {k : Ky} {i : Nat} (hk : kfind S.rows k = some i) : i < rs.length := by
  obtain ⟨r, h1, _⟩ := kfind_some hk
  have := (List.getElem?_eq_some_iff.1 h1).1
  rw [← h, List.length_map] at this
  exact this
set_option maxRecDepth 100000 in
set_option maxHeartbeats 4000000 in
theorem drop_r {w : World} {B c n : Nat} {rs : List Rt} {S : Bk} (h : RA w B c rs S) (ho : Ok S n) (hn : n ≤ 1048576) (hBw : B ≤ w.heap.size) {k : Ky} (hk : kw k) :
    Calls Try.prog 24 #[.pointer (some ⟨c, 0, none⟩), .agg (kc k)] w fun e w' => e = .returned (.bool (kfind S.rows k).isSome) ∧ (∃ rs', RA w' B c rs' (dropB S k)) ∧ Gm B pR false w w' := by
  have F1 : Fr [] w (w.alloc (.cells (kc k) 29)) := (Fr.refl _ _).alloc _
  have HX : Hid ((w.alloc (.cells (kc k) 29)).rangeAt w.heap.size 0 (kc k).toList) := range_block (heap_alloc_new w _)
  have CF := find_any (h.fr0 F1) ho hk
  have HC : Hid (RA (w.alloc (.cells (kc k) 29)) B c rs S ∧ Ok S n ∧ n ≤ 1048576 ∧ B ≤ (w.alloc (.cells (kc k) 29)).heap.size ∧ Fr [] w (w.alloc (.cells (kc k) 29))) := ⟨h.fr0 F1, ho, hn, Nat.le_trans hBw F1.size, F1⟩
  have habs := h.abs
  have HAB : Hid (rs.map absR = S.rows) := habs
  clear h ho hn hBw F1 habs
  cases hkf : kfind S.rows k with
  | none =>
    rw [hkf] at CF
    change Calls Try.prog 36 _ _ (fun e w' => e = .returned (.int .i64 (-1)) ∧ _) at CF
    have HD : Hid (dropB S k = S) := by show dropB S k = S; unfold dropB; rw [hkf]
    clear hkf
    go_enter Try.func24, Try.ntmps24
    go_upto_region 1 with fail
    generalize w.alloc (.cells (kc k) 29) = V at *
    generalize w.heap.size = kb at *
    go_wp2_with (first
      | refine wpList_ld29 rfl (.tmp 3) rfl kb 0 rfl k HX.out ?_
      | (go_at_call 36; refine CF.mono ?_; rintro e w1 ⟨rfl, f1⟩; have HF1 : Hid (Fr [] V w1) := f1; clear f1 CF HX))
    go_ret
    exact ⟨rfl, ⟨rs, by rw [HD.out]; exact HC.out.1.fr0 HF1.out⟩, (Gm.ofFr0 (HC.out.2.2.2.2.trans HF1.out))⟩
  | some i =>
    rw [hkf] at CF
    change Calls Try.prog 36 _ _ (fun e w' => e = .returned (.int .i64 (i : Int)) ∧ _) at CF
    have HD : Hid (dropB S k = goneB S i ∧ i < rs.length) := ⟨by unfold dropB; rw [hkf], kfind_lt HAB.out hkf⟩
    have hi0 : (0 : Int) ≤ (i : Int) := by omega
    clear hkf
    go_enter Try.func24, Try.ntmps24
    go_upto_region 1 with fail
    generalize w.alloc (.cells (kc k) 29) = V at *
    generalize w.heap.size = kb at *
    go_wp2_with (first
      | refine wpList_ld29 rfl (.tmp 3) rfl kb 0 rfl k HX.out ?_
      | (go_at_call 36; refine CF.mono ?_; rintro e w1 ⟨rfl, f1⟩; have HF1 : Hid (Fr [] V w1) := f1; have CG := gone_any (HC.out.1.fr0 f1) HC.out.2.1 HC.out.2.2.1 (Nat.le_trans HC.out.2.2.2.1 f1.size) HD.out.2; clear f1 CF HX)
      | (go_at_call 37; refine CG.mono ?_; rintro e w2 ⟨rfl, h2, g2⟩; have H2 : Hid (RA w2 B c (rs.eraseIdx i) (goneB S i) ∧ Gm B pR false w1 w2) := ⟨h2, g2⟩; clear h2 g2 CG))
    go_ret
    exact ⟨rfl, ⟨_, by rw [HD.out.1]; exact H2.out.1⟩, (Gm.ofFr0 (HC.out.2.2.2.2.trans HF1.out)).trans H2.out.2⟩
theorem res28 : Try.f28.results = #[.cell 4 35, .tmp 5, .tmp 6] := by kernel_rfl
theorem tr_rangeR {w : World} {g o : Nat} {r : Rt} (h : w.rangeAt g o (evl r)) : w.rangeAt g (o + 1) r.2.cl := fun j v hv => by
  have := h (j + 1) v (by simpa [evl] using hv)
  rw [show o + 1 + j = o + (j + 1) by omega]
  exact this
theorem getB_kf {rs : List Rt} {S : Bk} (h : rs.map absR = S.rows) (k : Ky) : (kfind S.rows k = none ∧ getB S k = none) ∨ ∃ i r, kfind S.rows k = some i ∧ rs[i]? = some r ∧ getB S k = some (absR r) := by
  rcases fnd_kf h k with ⟨h1, h2⟩ | ⟨i, r, h1, _, h3, h4⟩
  · exact .inl ⟨h2, by rw [fnd_get h, h1]; rfl⟩
  · exact .inr ⟨i, r, h4, h1, by rw [fnd_get h, h3]; rfl⟩
set_option maxRecDepth 100000 in
set_option maxHeartbeats 4000000 in
theorem get_r {w : World} {B c n : Nat} {rs : List Rt} {S : Bk} (h : RA w B c rs S) (ho : Ok S n) (hBw : B ≤ w.heap.size) {k : Ky} (hk : kw k) :
    Calls Try.prog 28 #[.pointer (some ⟨c, 0, none⟩), .agg (kc k)] w fun e w' => ∃ t' : Tr, e = .returned (.tuple #[.agg t'.arr, .int .i64 (((getB S k).map (·.1)).getD 0), .bool (getB S k).isSome]) ∧ t'.abs = ((getB S k).map (·.2)).getD tr0.abs ∧ TrOk w' B t' ∧ Fr [] w w' := by
  have F1 : Fr [] w ((w.alloc (.cells (kc k) 29)).alloc (.cells #[.int .i64 0, .int .i64 0, .int .i64 0, .int .i64 0, .int .i64 0, .int .i64 0, .int .i64 0, .int .i64 0, .int .i64 0, .int .i64 0, .int .i64 0, .int .i64 0, .slice none 0 0, .slice none 0 0, .slice none 0 0, .slice none 0 0, .slice none 0 0] 35)) := ((Fr.refl _ _).alloc _).alloc _
  have hx := (((Fr.refl [] (w.alloc (.cells (kc k) 29))).alloc (.cells #[.int .i64 0, .int .i64 0, .int .i64 0, .int .i64 0, .int .i64 0, .int .i64 0, .int .i64 0, .int .i64 0, .int .i64 0, .int .i64 0, .int .i64 0, .int .i64 0, .slice none 0 0, .slice none 0 0, .slice none 0 0, .slice none 0 0, .slice none 0 0] 35)).block _ (by simp) (by simp)).trans (heap_alloc_new w (.cells (kc k) 29))
  have hy : ((w.alloc (.cells (kc k) 29)).alloc (.cells #[.int .i64 0, .int .i64 0, .int .i64 0, .int .i64 0, .int .i64 0, .int .i64 0, .int .i64 0, .int .i64 0, .int .i64 0, .int .i64 0, .int .i64 0, .int .i64 0, .slice none 0 0, .slice none 0 0, .slice none 0 0, .slice none 0 0, .slice none 0 0] 35)).heap[w.heap.size + 1]? = _ := blk2 w (.cells (kc k) 29) (.cells #[.int .i64 0, .int .i64 0, .int .i64 0, .int .i64 0, .int .i64 0, .int .i64 0, .int .i64 0, .int .i64 0, .int .i64 0, .int .i64 0, .int .i64 0, .int .i64 0, .slice none 0 0, .slice none 0 0, .slice none 0 0, .slice none 0 0, .slice none 0 0] 35)
  have CF := find_any (h.fr0 F1) ho hk
  have HX : Hid (((w.alloc (.cells (kc k) 29)).alloc (.cells #[.int .i64 0, .int .i64 0, .int .i64 0, .int .i64 0, .int .i64 0, .int .i64 0, .int .i64 0, .int .i64 0, .int .i64 0, .int .i64 0, .int .i64 0, .int .i64 0, .slice none 0 0, .slice none 0 0, .slice none 0 0, .slice none 0 0, .slice none 0 0] 35)).rangeAt w.heap.size 0 (kc k).toList) := range_block hx
  have HC : Hid (RA ((w.alloc (.cells (kc k) 29)).alloc (.cells #[.int .i64 0, .int .i64 0, .int .i64 0, .int .i64 0, .int .i64 0, .int .i64 0, .int .i64 0, .int .i64 0, .int .i64 0, .int .i64 0, .int .i64 0, .int .i64 0, .slice none 0 0, .slice none 0 0, .slice none 0 0, .slice none 0 0, .slice none 0 0] 35)) B c rs S ∧ Ok S n ∧ Fr [] w ((w.alloc (.cells (kc k) 29)).alloc (.cells #[.int .i64 0, .int .i64 0, .int .i64 0, .int .i64 0, .int .i64 0, .int .i64 0, .int .i64 0, .int .i64 0, .int .i64 0, .int .i64 0, .int .i64 0, .int .i64 0, .slice none 0 0, .slice none 0 0, .slice none 0 0, .slice none 0 0, .slice none 0 0] 35)) ∧ w.heap.size < w.heap.size + 1 ∧ ((w.alloc (.cells (kc k) 29)).alloc (.cells #[.int .i64 0, .int .i64 0, .int .i64 0, .int .i64 0, .int .i64 0, .int .i64 0, .int .i64 0, .int .i64 0, .int .i64 0, .int .i64 0, .int .i64 0, .int .i64 0, .slice none 0 0, .slice none 0 0, .slice none 0 0, .slice none 0 0, .slice none 0 0] 35)).heap[w.heap.size + 1]? = some (.cells #[.int .i64 0, .int .i64 0, .int .i64 0, .int .i64 0, .int .i64 0, .int .i64 0, .int .i64 0, .int .i64 0, .int .i64 0, .int .i64 0, .int .i64 0, .int .i64 0, .slice none 0 0, .slice none 0 0, .slice none 0 0, .slice none 0 0, .slice none 0 0] 35 (0, 0)) ∧ B ≤ w.heap.size + 1) := ⟨h.fr0 F1, ho, F1, by omega, hy, by omega⟩
  have HWK : Hid (w.heap.size ≤ w.heap.size + 1) := by show _ ≤ _; omega
  have habs := h.abs
  clear h ho hBw F1 hx hy
  rcases getB_kf habs k with ⟨h1, h2⟩ | ⟨i, r, h1, h2, h3⟩
  · rw [h1] at CF
    change Calls Try.prog 36 _ _ (fun e w' => e = .returned (.int .i64 (-1)) ∧ _) at CF
    rw [h2]
    clear h1 h2 habs
    go_enter Try.func28, Try.ntmps28
    go_upto_region 1 with fail
    generalize (w.alloc (.cells (kc k) 29)).alloc (.cells #[.int .i64 0, .int .i64 0, .int .i64 0, .int .i64 0, .int .i64 0, .int .i64 0, .int .i64 0, .int .i64 0, .int .i64 0, .int .i64 0, .int .i64 0, .int .i64 0, .slice none 0 0, .slice none 0 0, .slice none 0 0, .slice none 0 0, .slice none 0 0] 35) = V at *
    generalize hkb : w.heap.size + 1 = kb2 at *
    generalize hkc : w.heap.size = kb at *
    have HKB : Hid (w.heap.size ≤ kb2) := by show _ ≤ _; omega
    clear hkb hkc
    go_upto_region 3 with (first
      | refine wpList_ld29 rfl (.tmp 3) rfl kb 0 rfl k HX.out ?_
      | (go_at_call 36; refine CF.mono ?_; rintro e w1 ⟨rfl, f1⟩; have HF1 : Hid (Fr [] V w1) := f1; clear f1 CF HX))
    have hy1 := (HF1.out.block _ (Array.getElem?_eq_some_iff.1 HC.out.2.2.2.2.1).1 (by simp)).trans HC.out.2.2.2.2.1
    have HA : Hid (w1.heap[kb2]? = some (.cells #[.int .i64 0, .int .i64 0, .int .i64 0, .int .i64 0, .int .i64 0, .int .i64 0, .int .i64 0, .int .i64 0, .int .i64 0, .int .i64 0, .int .i64 0, .int .i64 0, .slice none 0 0, .slice none 0 0, .slice none 0 0, .slice none 0 0, .slice none 0 0] 35 (0, 0))) := hy1
    have HB : Hid ((w1.setRow kb2 tr0.arr).heap[kb2]? = some (.cells tr0.arr 35 (0, 0))) := setRow_heap _ _ _ tr0.arr _ _ hy1
    have HF : Hid (Fr [] w (w1.setRow kb2 tr0.arr)) := (HC.out.2.2.1.trans HF1.out).setRow (.inr HKB.out) _
    clear hy1
    go_wp2_with (refine wpList_store_row rfl 35 (.tmp 4) (.tmp 13) rfl kb2 tr0.arr rfl rfl 35 _ HA.out (by rw [tr0.arr_size]; exact info35) (by rw [tr0.arr_size]; rfl) tr0.arr_one ?_)
    exact bodyPost_ret (results35c res28 tr0.arr_size rfl HB.out) rfl ⟨tr0, rfl, rfl, tr0_ok _ _, HF.out⟩
  · rw [h1] at CF
    change Calls Try.prog 36 _ _ (fun e w' => e = .returned (.int .i64 (i : Int)) ∧ _) at CF
    rw [h3]
    have hi0 : (0 : Int) ≤ (i : Int) := by omega
    have hi2 : i < rs.length := (List.getElem?_eq_some_iff.1 h2).1
    have HR : Hid (rs[i]? = some r) := h2
    clear h1 h2 h3 habs
    go_enter Try.func28, Try.ntmps28
    go_upto_region 1 with fail
    generalize (w.alloc (.cells (kc k) 29)).alloc (.cells #[.int .i64 0, .int .i64 0, .int .i64 0, .int .i64 0, .int .i64 0, .int .i64 0, .int .i64 0, .int .i64 0, .int .i64 0, .int .i64 0, .int .i64 0, .int .i64 0, .slice none 0 0, .slice none 0 0, .slice none 0 0, .slice none 0 0, .slice none 0 0] 35) = V at *
    generalize hkb : w.heap.size + 1 = kb2 at *
    generalize hkc : w.heap.size = kb at *
    have HKB : Hid (w.heap.size ≤ kb2) := by show _ ≤ _; omega
    clear hkb hkc
    go_upto_region 4 with (first
      | refine wpList_ld29 rfl (.tmp 3) rfl kb 0 rfl k HX.out ?_
      | (go_at_call 36; refine CF.mono ?_; rintro e w1 ⟨rfl, f1⟩; have HF1 : Hid (Fr [] V w1) := f1; clear f1 CF HX))
    have hy1 := (HF1.out.block _ (Array.getElem?_eq_some_iff.1 HC.out.2.2.2.2.1).1 (by simp)).trans HC.out.2.2.2.2.1
    obtain ⟨rv, nv, pa, pcap, pf, used, hp, _⟩ := (HC.out.1.fr0 HF1.out).ex
    obtain ⟨ra, rc, rfl, _⟩ := own_slice hp.rows
    obtain ⟨g, rfl⟩ : ∃ g, ra = some ⟨g, 0, none⟩ := by
      obtain ⟨g, c', e1, _⟩ := own_cells hp.rows (j := i * 18) (List.getElem?_eq_getElem (by rw [flatR_len]; omega))
      cases e1; exact ⟨g, rfl⟩
    have hck : c ≠ kb2 := by rintro rfl; exact absurd (ne_cells hp.blk hy1) (by decide)
    have LC : Hid (∀ w', Fr [kb2] w1 w' → w'.cell? ⟨c, 0, none⟩ = some (.slice (some ⟨g, 0, none⟩) rs.length rc)) := fun w' f => f.cellNew hp.blk (by simpa using hck) rfl
    have LR : Hid (∀ w', Fr [kb2] w1 w' → w'.rangeAt g (i * 18) (evl r)) := fun w' f => rowR_at (own_fr hp.rows f (fun j hj hm => by
      have : j = kb2 := by simpa using hm
      subst this
      exact own_ne hp.rows hy1 (by decide) hj)) HR.out
    have HT : Hid (TrOk w1 B r.2 ∧ w1.heap[kb2]? = some (.cells #[.int .i64 0, .int .i64 0, .int .i64 0, .int .i64 0, .int .i64 0, .int .i64 0, .int .i64 0, .int .i64 0, .int .i64 0, .int .i64 0, .int .i64 0, .int .i64 0, .slice none 0 0, .slice none 0 0, .slice none 0 0, .slice none 0 0, .slice none 0 0] 35 (0, 0))) := ⟨hp.trs r (List.mem_of_getElem? HR.out), hy1⟩
    have hiI : (i : Int) < (rs.length : Int) := by omega
    clear hp hck hy1 HR
    refine reg_in (fun w' => Fr [kb2] w1 w') ?_
    have hS : Fr [kb2] w1 w1.drew := (Fr.refl _ _).drew
    have hbY : w1.drew.heap[kb2]? = some (.cells #[.int .i64 0, .int .i64 0, .int .i64 0, .int .i64 0, .int .i64 0, .int .i64 0, .int .i64 0, .int .i64 0, .int .i64 0, .int .i64 0, .int .i64 0, .int .i64 0, .slice none 0 0, .slice none 0 0, .slice none 0 0, .slice none 0 0, .slice none 0 0] 35 (0, 0)) := HT.out.2
    have HTY : Hid (TrOk w1.drew B r.2) := HT.out.1.fr0 (Fr.refl _ _).drew
    generalize w1.drew = Y at *
    refine tk 0 (some 14) (.pointer (some ⟨c, 0, none⟩)) rfl rfl (Or.inl ⟨rfl, fun wq hSq => by first | rfl | go_simp⟩) (by decide +kernel) hS ?_
    simp only [Act.put, List.setIfInBounds_toArray, List.set_cons_zero, List.set_cons_succ]
    refine tk 1 (some 15) (.pointer (some ⟨c, 0, none⟩)) rfl rfl (Or.inl ⟨rfl, fun wq hSq => by first | rfl | go_simp⟩) (by decide +kernel) hS ?_
    simp only [Act.put, List.setIfInBounds_toArray, List.set_cons_zero, List.set_cons_succ]
    refine tk 2 (some 16) (.pointer (some ⟨c, 0, none⟩)) rfl rfl (Or.inl ⟨rfl, fun wq hSq => by first | rfl | go_simp⟩) (by decide +kernel) hS ?_
    simp only [Act.put, List.setIfInBounds_toArray, List.set_cons_zero, List.set_cons_succ]
    refine tk 3 (some 17) (.slice (some ⟨g, 0, none⟩) rs.length rc) rfl rfl (Or.inl ⟨rfl, fun wq hSq => by have q := LC.out wq hSq; go_simp⟩) (by decide +kernel) hS ?_
    simp only [Act.put, List.setIfInBounds_toArray, List.set_cons_zero, List.set_cons_succ]
    refine tk 4 (some 18) (.int .i64 (i : Int)) rfl rfl (Or.inl ⟨rfl, fun wq hSq => by first | rfl | go_simp⟩) (by decide +kernel) hS ?_
    simp only [Act.put, List.setIfInBounds_toArray, List.set_cons_zero, List.set_cons_succ]
    refine tk 5 (some 19) (.pointer (some ⟨g, i * 18, none⟩)) rfl rfl (Or.inl ⟨rfl, fun wq hSq => by go_simp⟩) (by decide +kernel) hS ?_
    simp only [Act.put, List.setIfInBounds_toArray, List.set_cons_zero, List.set_cons_succ]
    refine tk 6 (some 20) (.pointer (some ⟨g, i * 18 + 1, none⟩)) rfl rfl (Or.inl ⟨rfl, fun wq hSq => by go_simp⟩) (by decide +kernel) hS ?_
    simp only [Act.put, List.setIfInBounds_toArray, List.set_cons_zero, List.set_cons_succ]
    refine tk 7 (some 21) (.agg r.2.arr) rfl rfl ?_ (by decide +kernel) hS ?_
    · exact yieldsIf_load_mid rfl 35 (.tmp 20) rfl g (i * 18 + 1) rfl r.2.cl _ (fun wq hSq => tr_rangeR (LR.out wq hSq)) Try.underlying35 rfl (by rw [Tr.cl_len]; exact info35)
    simp only [Act.put, List.setIfInBounds_toArray, List.set_cons_zero, List.set_cons_succ]
    refine tk 8 (some 22) (.pointer (some ⟨c, 0, none⟩)) rfl rfl (Or.inl ⟨rfl, fun wq hSq => by first | rfl | go_simp⟩) (by decide +kernel) hS ?_
    simp only [Act.put, List.setIfInBounds_toArray, List.set_cons_zero, List.set_cons_succ]
    refine tk 9 (some 23) (.pointer (some ⟨c, 0, none⟩)) rfl rfl (Or.inl ⟨rfl, fun wq hSq => by first | rfl | go_simp⟩) (by decide +kernel) hS ?_
    simp only [Act.put, List.setIfInBounds_toArray, List.set_cons_zero, List.set_cons_succ]
    refine tk 10 (some 24) (.pointer (some ⟨c, 0, none⟩)) rfl rfl (Or.inl ⟨rfl, fun wq hSq => by first | rfl | go_simp⟩) (by decide +kernel) hS ?_
    simp only [Act.put, List.setIfInBounds_toArray, List.set_cons_zero, List.set_cons_succ]
    refine tk 11 (some 25) (.slice (some ⟨g, 0, none⟩) rs.length rc) rfl rfl (Or.inl ⟨rfl, fun wq hSq => by have q := LC.out wq hSq; go_simp⟩) (by decide +kernel) hS ?_
    simp only [Act.put, List.setIfInBounds_toArray, List.set_cons_zero, List.set_cons_succ]
    refine tk 12 (some 26) (.int .i64 (i : Int)) rfl rfl (Or.inl ⟨rfl, fun wq hSq => by first | rfl | go_simp⟩) (by decide +kernel) hS ?_
    simp only [Act.put, List.setIfInBounds_toArray, List.set_cons_zero, List.set_cons_succ]
    refine tk 13 (some 27) (.pointer (some ⟨g, i * 18, none⟩)) rfl rfl (Or.inl ⟨rfl, fun wq hSq => by go_simp⟩) (by decide +kernel) hS ?_
    simp only [Act.put, List.setIfInBounds_toArray, List.set_cons_zero, List.set_cons_succ]
    refine tk 14 (some 28) (.pointer (some ⟨g, i * 18, none⟩)) rfl rfl (Or.inl ⟨rfl, fun wq hSq => by go_simp⟩) (by decide +kernel) hS ?_
    simp only [Act.put, List.setIfInBounds_toArray, List.set_cons_zero, List.set_cons_succ]
    refine tk 15 (some 29) (.int .i64 r.1) rfl rfl (Or.inl ⟨rfl, fun wq hSq => by have q : wq.cell? ⟨g, i * 18, none⟩ = some (.int .i64 r.1) := LR.out wq hSq 0 _ rfl; go_simp⟩) (by decide +kernel) hS ?_
    simp only [Act.put, List.setIfInBounds_toArray, List.set_cons_zero, List.set_cons_succ]
    refine wpAnyH_ready (rs := [16]) (by decide +kernel) (by simp) ?_
    refine AllReadyH.cons rfl (fun K hK => ?_) AllReadyH.nil
    refine wp_store_row 35 (.tmp 4) (.tmp 21) rfl kb2 r.2.arr rfl rfl 35 _ hbY (by rw [r.2.arr_size]; exact info35) (by rw [r.2.arr_size]; rfl) r.2.arr_one ?_
    have hyQ := setRow_heap Y kb2 _ r.2.arr _ _ hbY
    have hS := hS.setRow (g := kb2) (.inl (by simp)) r.2.arr
    have HQ : Hid (TrOk (Y.setRow kb2 r.2.arr) B r.2) := HTY.out.fr (S := [kb2]) ((Fr.refl _ _).setRow (.inl (by simp)) _) (away_cells hbY rfl HC.out.2.2.2.2.2)
    generalize Y.setRow kb2 r.2.arr = Q at *
    refine hK.out _ _ hS (fun _ => ?_)
    clear hK K
    try simp only [List.getElem_toArray, List.getElem_cons_succ, List.getElem_cons_zero, Act.put, List.setIfInBounds_toArray, List.set_cons_zero, List.set_cons_succ]
    refine tk 17 (some 5) (.int .i64 r.1) rfl rfl (Or.inl ⟨rfl, fun wq hSq => by first | rfl | go_simp⟩) (by decide +kernel) hS ?_
    simp only [Act.put, List.setIfInBounds_toArray, List.set_cons_zero, List.set_cons_succ]
    refine tk 18 (some 6) (.bool true) rfl rfl (Or.inl ⟨rfl, fun wq hSq => by first | rfl | go_simp⟩) (by decide +kernel) hS ?_
    simp only [Act.put, List.setIfInBounds_toArray, List.set_cons_zero, List.set_cons_succ]
    refine wpAnyH_done (by decide +kernel) ?_ _
    refine plain_end ?_
    have HFF : Hid (Fr [] w Q) := (((HC.out.2.2.1.trans HF1.out).sub (T := [kb2]) (by simp)).trans hS).sub (fun j hj => by
      have : j = kb2 := by simpa using hj
      have := HKB.out
      right; omega)
    have HQQ : Hid (Q.heap[kb2]? = some (.cells r.2.arr 35 (0, 0))) := hyQ
    clear hS hyQ LC LR
    go_wp2
    exact bodyPost_ret (results35c res28 r.2.arr_size rfl HQQ.out) rfl ⟨r.2, rfl, rfl, HQ.out, HFF.out⟩
end Go.Proofs.Ytnhjplfdfbbihaa
