/-
  Whether any two traces are alike: the program answers as the document, the same one way and the other; condition: the table lies as laid, the traces lie as told.
-/
import Derived.Test.YtkogfgbgmifcnaaDoorSaI
import Derived.Test.YtkogfgbgmifcnaaDoorSaJ
import Derived.Test.YtkogfgbgmifcnaaDoorTdF
namespace Go.Proofs.YtkogfgbgmifcnaaDoor
open Go.RowKit
set_option linter.unusedVariables false
set_option linter.unusedSimpArgs false
theorem wpList_want {P : Program} {ops : Array Oper} {Q : Exit → Act → World → Prop} {a : Act} {w : World} {rest : List Oper} {o : Oper} (hw : Region.wanted o (yielded ops a.tmps) = true) (h : ∀ K : Act → World → Prop, (∀ a w, wpList P ops Q rest a w → K a w) → o.wp P a w K Q) : wpList P ops Q (o :: rest) a w :=
  wpList_step fun K hK => by rw [if_pos hw]; exact h K hK
theorem wpList_ld33w {ops : Array Oper} {rest : List Oper} {o : Oper} {a : Act} {w : World} {Q : Exit → Act → World → Prop} (hw : Region.wanted o (yielded ops a.tmps) = true) (x : Operand) (ho : o.op = .load 33 x)
    (g : Nat) (hx : a.eval x = .pointer (some ⟨g, 0, none⟩)) (A : Array Value) (hA : A.size = 17) (hg : w.heap[g]? = some (.cells A 33 (0, 0)))
    (h : wpList Tryd.prog ops Q rest (a.put o.dst (.agg A)) w) : wpList Tryd.prog ops Q (o :: rest) a w :=
  wpList_want hw fun K hK => wp_load_row 33 x ho g hx 33 A (0, 0) _ hg Tryd.underlying33 rfl (by rw [hA]; exact info33) (hK _ _ h)
set_option maxRecDepth 100000 in
set_option maxHeartbeats 16000000 in
theorem traceSame_walk (t u : Tr) (w : World) {B : Nat} (h1 : TrOk w B t) (ha : ATOk t.abs) (h2 : TrOk w B u) (hb : ATOk u.abs) (ht : Tab w) : Calls Tryd.prog 6 #[.agg t.arr, .agg u.arr] w fun e w' => e = .returned (.bool true) ∧ Fr [] w w' := by
  have F2 : Fr [] w ((w.alloc (.cells t.arr 33)).alloc (.cells u.arr 33)) := ((Fr.refl _ _).alloc _).alloc _
  have HT : Hid (Tw ((w.alloc (.cells t.arr 33)).alloc (.cells u.arr 33)) B w.heap.size (w.heap.size + 1) t u) := ⟨(((Fr.refl [] _).alloc _).block _ (by simp) (by simp)).trans (heap_alloc_new w _), blk2 w _ _, h1.fr0 F2, h2.fr0 F2⟩
  have HW : Hid (ATOk t.abs ∧ ATOk u.abs) := ⟨ha, hb⟩
  have HF : Hid (Fr [] w ((w.alloc (.cells t.arr 33)).alloc (.cells u.arr 33))) := F2
  have CA := awake8 (ht.fr0 F2)
  clear h1 h2 ha hb F2 ht
  go_enter Tryd.func6, Tryd.ntmps6
  go_upto_region 1 with fail
  generalize (w.alloc (.cells t.arr 33)).alloc (.cells u.arr 33) = W at *
  have A1 : Hid True := trivial
  have A2 : Hid True := trivial
  have A3 : Hid True := trivial
  go_upto_region 3 with (go_at_call 8; refine CA.mono ?_; rintro e W1 ⟨rfl, f1⟩)
  have HT1 : Hid (Tw W1 B w.heap.size (w.heap.size + 1) t u) := HT.out.fr f1
  have HF1 : Hid (Fr [] w W1) := HF.out.trans f1
  have C9 := few9 HT1.out.o1
  clear CA f1 HT HF
  go_upto_region 5 with (first
    | (have hA1 := A1; clear A1 hA1; refine wpList_ld33 rfl (.tmp 2) rfl w.heap.size rfl t.arr t.arr_size HT1.out.b1 ?_)
    | (have hA2 := A2; go_at_call 9; refine C9.mono ?_; rintro e W2 ⟨b, rfl, f2⟩; have HT2 : Hid (Tw W2 B w.heap.size (w.heap.size + 1) t u) := HT1.out.fr f2; have HF2 : Hid (Fr [] w W2) := HF1.out.trans f2; clear A2 hA2 C9 f2; have D9 := few9 HT2.out.o2; cases b)
    | (have hA3 := A3; clear A3 hA3; refine wpList_ld33w (by rfl) (.tmp 3) rfl (w.heap.size + 1) rfl u.arr u.arr_size HT2.out.b2 ?_)
    | (go_at_call 9; refine D9.mono ?_; rintro e W3 ⟨b, rfl, f2⟩; have HT3 : Hid (Tw W3 B w.heap.size (w.heap.size + 1) t u) := HT2.out.fr f2; have HF3 : Hid (Fr [] w W3) := HF2.out.trans f2; clear D9 f2; cases b))
  · go_ret
    exact ⟨rfl, HF2.out⟩
  · go_ret
    exact ⟨rfl, HF3.out⟩
  obtain ⟨z, hz⟩ : ∃ z, z = decide (t.abs = u.abs) := ⟨_, rfl⟩
  have C21 : Hid (∀ w', Fr [] W3 w' → Calls Tryd.prog 21 #[.agg t.arr, .agg u.arr] w' fun e w'' => e = .returned (.bool z) ∧ Fr [] w' w'') := fun w' f => by rw [hz]; exact same21 (HT3.out.fr f).o1 (HT3.out.fr f).o2 HW.out.1 HW.out.2
  have C22 : Hid (∀ w', Fr [] W3 w' → Calls Tryd.prog 22 #[.agg t.arr, .agg u.arr] w' fun e w'' => e = .returned (.bool z) ∧ Fr [] w' w'') := fun w' f => by rw [hz]; exact same22 (HT3.out.fr f).o1 (HT3.out.fr f).o2 HW.out.1 HW.out.2
  have C21a : Hid (∀ w', Fr [] W3 w' → Calls Tryd.prog 21 #[.agg t.arr, .agg t.arr] w' fun e w'' => e = .returned (.bool true) ∧ Fr [] w' w'') := fun w' f => by
    have := same21 (HT3.out.fr f).o1 (HT3.out.fr f).o1 HW.out.1 HW.out.1
    rw [decide_eq_true (rfl : t.abs = t.abs)] at this
    exact this
  have C21b : Hid (∀ w', Fr [] W3 w' → Calls Tryd.prog 21 #[.agg u.arr, .agg t.arr] w' fun e w'' => e = .returned (.bool z) ∧ Fr [] w' w'') := fun w' f => by
    have := same21 (HT3.out.fr f).o2 (HT3.out.fr f).o1 HW.out.2 HW.out.1
    rw [show decide (u.abs = t.abs) = z by rw [hz]; exact decide_eq_decide.2 eq_comm] at this
    exact this
  have l1 : ∀ w', Fr [] W3 w' → w'.rangeAt w.heap.size 0 t.cl := fun w' f => by
    have h := range_block ((f.block _ (at_lt HT3.out.b1) (by simp)).trans HT3.out.b1)
    simpa [Tr.arr] using h
  have l2 : ∀ w', Fr [] W3 w' → w'.rangeAt (w.heap.size + 1) 0 u.cl := fun w' f => by
    have h := range_block ((f.block _ (at_lt HT3.out.b2) (by simp)).trans HT3.out.b2)
    simpa [Tr.arr] using h
  have i1 : (Tryd.prog.info? 33).map (·.size) = some t.cl.length := by rw [show t.cl.length = 17 by have := t.arr_size; simpa [Tr.arr] using this]; exact info33
  have i2 : (Tryd.prog.info? 33).map (·.size) = some u.cl.length := by rw [show u.cl.length = 17 by have := u.arr_size; simpa [Tr.arr] using this]; exact info33
  clear hz HT3 HT1 HT2
  refine reg_in (fun w' => Fr [] W3 w') ?_
  have hS : Fr [] W3 W3.drew := (Fr.refl _ _).drew
  generalize W3.drew = Y at *
  refine tk 0 (some 15) (.agg t.cl.toArray) rfl rfl ?_ (by decide +kernel) hS ?_
  · exact yieldsIf_load_mid (by rfl) 33 (.tmp 2) rfl (w.heap.size) 0 rfl t.cl _ l1 Tryd.underlying33 rfl i1
  simp only [Act.put, List.setIfInBounds_toArray, List.set_cons_zero, List.set_cons_succ]
  refine tk 1 (some 16) (.agg u.cl.toArray) rfl rfl ?_ (by decide +kernel) hS ?_
  · exact yieldsIf_load_mid (by rfl) 33 (.tmp 3) rfl (w.heap.size + 1) 0 rfl u.cl _ l2 Tryd.underlying33 rfl i2
  simp only [Act.put, List.setIfInBounds_toArray, List.set_cons_zero, List.set_cons_succ]
  refine tk 3 (some 18) (.agg t.cl.toArray) rfl rfl ?_ (by decide +kernel) hS ?_
  · exact yieldsIf_load_mid (by rfl) 33 (.tmp 2) rfl (w.heap.size) 0 rfl t.cl _ l1 Tryd.underlying33 rfl i1
  simp only [Act.put, List.setIfInBounds_toArray, List.set_cons_zero, List.set_cons_succ]
  refine tk 4 (some 19) (.agg u.cl.toArray) rfl rfl ?_ (by decide +kernel) hS ?_
  · exact yieldsIf_load_mid (by rfl) 33 (.tmp 3) rfl (w.heap.size + 1) 0 rfl u.cl _ l2 Tryd.underlying33 rfl i2
  simp only [Act.put, List.setIfInBounds_toArray, List.set_cons_zero, List.set_cons_succ]
  refine wpAnyH_ready (rs := [2]) (by decide +kernel) (by simp) ?_
  refine AllReadyH.cons rfl (fun K hK => ?_) AllReadyH.nil
  go_simp
  refine (C21.out _ hS).mono ?_
  rintro e Y4 ⟨rfl, f1⟩
  have hS := hS.trans f1
  clear f1
  refine hK.out _ _ hS (fun _ => ?_)
  clear hK K
  try simp only [List.getElem_toArray, List.getElem_cons_succ, List.getElem_cons_zero, Act.put, List.setIfInBounds_toArray, List.set_cons_zero, List.set_cons_succ]
  refine wpAnyH_ready (rs := [5]) (by decide +kernel) (by simp) ?_
  refine AllReadyH.cons rfl (fun K hK => ?_) AllReadyH.nil
  go_simp
  refine (C22.out _ hS).mono ?_
  rintro e Y5 ⟨rfl, f1⟩
  have hS := hS.trans f1
  clear f1
  refine hK.out _ _ hS (fun _ => ?_)
  clear hK K
  try simp only [List.getElem_toArray, List.getElem_cons_succ, List.getElem_cons_zero, Act.put, List.setIfInBounds_toArray, List.set_cons_zero, List.set_cons_succ]
  refine tk 6 (some 21) (.bool true) rfl rfl (Or.inl ⟨rfl, fun wq hSq => by go_simp⟩) (by decide +kernel) hS ?_
  simp only [Act.put, List.setIfInBounds_toArray, List.set_cons_zero, List.set_cons_succ]
  refine tk 7 (some 22) (.bool true) rfl rfl (Or.inl ⟨rfl, fun wq hSq => by first | rfl | go_simp⟩) (by decide +kernel) hS ?_
  simp only [Act.put, List.setIfInBounds_toArray, List.set_cons_zero, List.set_cons_succ]
  refine tk 8 (some 23) (.agg t.cl.toArray) rfl rfl ?_ (by decide +kernel) hS ?_
  · exact yieldsIf_load_mid (by rfl) 33 (.tmp 2) rfl (w.heap.size) 0 rfl t.cl _ l1 Tryd.underlying33 rfl i1
  simp only [Act.put, List.setIfInBounds_toArray, List.set_cons_zero, List.set_cons_succ]
  refine tk 9 (some 24) (.agg t.cl.toArray) rfl rfl ?_ (by decide +kernel) hS ?_
  · exact yieldsIf_load_mid (by rfl) 33 (.tmp 2) rfl (w.heap.size) 0 rfl t.cl _ l1 Tryd.underlying33 rfl i1
  simp only [Act.put, List.setIfInBounds_toArray, List.set_cons_zero, List.set_cons_succ]
  refine wpAnyH_ready (rs := [10]) (by decide +kernel) (by simp) ?_
  refine AllReadyH.cons rfl (fun K hK => ?_) AllReadyH.nil
  rw [if_pos (by rfl)]
  go_simp
  refine (C21a.out _ hS).mono ?_
  rintro e Y6 ⟨rfl, f1⟩
  have hS := hS.trans f1
  clear f1
  refine hK.out _ _ hS (fun _ => ?_)
  clear hK K
  try simp only [List.getElem_toArray, List.getElem_cons_succ, List.getElem_cons_zero, Act.put, List.setIfInBounds_toArray, List.set_cons_zero, List.set_cons_succ]
  refine tk 11 (some 26) (.bool true) rfl rfl (Or.inl ⟨rfl, fun wq hSq => by first | rfl | go_simp⟩) (by decide +kernel) hS ?_
  simp only [Act.put, List.setIfInBounds_toArray, List.set_cons_zero, List.set_cons_succ]
  refine tk 12 (some 27) (.bool true) rfl rfl (Or.inl ⟨rfl, fun wq hSq => by first | rfl | go_simp⟩) (by decide +kernel) hS ?_
  simp only [Act.put, List.setIfInBounds_toArray, List.set_cons_zero, List.set_cons_succ]
  refine tk 13 (some 28) (.agg t.cl.toArray) rfl rfl ?_ (by decide +kernel) hS ?_
  · exact yieldsIf_load_mid (by rfl) 33 (.tmp 2) rfl (w.heap.size) 0 rfl t.cl _ l1 Tryd.underlying33 rfl i1
  simp only [Act.put, List.setIfInBounds_toArray, List.set_cons_zero, List.set_cons_succ]
  refine tk 14 (some 29) (.agg u.cl.toArray) rfl rfl ?_ (by decide +kernel) hS ?_
  · exact yieldsIf_load_mid (by rfl) 33 (.tmp 3) rfl (w.heap.size + 1) 0 rfl u.cl _ l2 Tryd.underlying33 rfl i2
  simp only [Act.put, List.setIfInBounds_toArray, List.set_cons_zero, List.set_cons_succ]
  refine tk 16 (some 31) (.agg u.cl.toArray) rfl rfl ?_ (by decide +kernel) hS ?_
  · exact yieldsIf_load_mid (by rfl) 33 (.tmp 3) rfl (w.heap.size + 1) 0 rfl u.cl _ l2 Tryd.underlying33 rfl i2
  simp only [Act.put, List.setIfInBounds_toArray, List.set_cons_zero, List.set_cons_succ]
  refine tk 17 (some 32) (.agg t.cl.toArray) rfl rfl ?_ (by decide +kernel) hS ?_
  · exact yieldsIf_load_mid (by rfl) 33 (.tmp 2) rfl (w.heap.size) 0 rfl t.cl _ l1 Tryd.underlying33 rfl i1
  simp only [Act.put, List.setIfInBounds_toArray, List.set_cons_zero, List.set_cons_succ]
  refine wpAnyH_ready (rs := [15]) (by decide +kernel) (by simp) ?_
  refine AllReadyH.cons rfl (fun K hK => ?_) AllReadyH.nil
  rw [if_pos (by rfl)]
  go_simp
  refine (C21.out _ hS).mono ?_
  rintro e Y7 ⟨rfl, f1⟩
  have hS := hS.trans f1
  clear f1
  refine hK.out _ _ hS (fun _ => ?_)
  clear hK K
  try simp only [List.getElem_toArray, List.getElem_cons_succ, List.getElem_cons_zero, Act.put, List.setIfInBounds_toArray, List.set_cons_zero, List.set_cons_succ]
  refine wpAnyH_ready (rs := [18]) (by decide +kernel) (by simp) ?_
  refine AllReadyH.cons rfl (fun K hK => ?_) AllReadyH.nil
  rw [if_pos (by rfl)]
  go_simp
  refine (C21b.out _ hS).mono ?_
  rintro e Y8 ⟨rfl, f1⟩
  have hS := hS.trans f1
  clear f1
  refine hK.out _ _ hS (fun _ => ?_)
  clear hK K
  try simp only [List.getElem_toArray, List.getElem_cons_succ, List.getElem_cons_zero, Act.put, List.setIfInBounds_toArray, List.set_cons_zero, List.set_cons_succ]
  refine tk 19 (some 34) (.bool true) rfl rfl (Or.inl ⟨rfl, fun wq hSq => by go_simp⟩) (by decide +kernel) hS ?_
  simp only [Act.put, List.setIfInBounds_toArray, List.set_cons_zero, List.set_cons_succ]
  refine tk 20 (some 35) (.bool true) rfl rfl (Or.inl ⟨rfl, fun wq hSq => by first | rfl | go_simp⟩) (by decide +kernel) hS ?_
  simp only [Act.put, List.setIfInBounds_toArray, List.set_cons_zero, List.set_cons_succ]
  refine tk 21 (some 4) (.bool true) rfl rfl (Or.inl ⟨rfl, fun wq hSq => by first | rfl | go_simp⟩) (by decide +kernel) hS ?_
  simp only [Act.put, List.setIfInBounds_toArray, List.set_cons_zero, List.set_cons_succ]
  refine wpAnyH_done (by decide +kernel) ?_ _
  refine plain_end ?_
  have HF : Hid (Fr [] w _) := HF3.out.trans hS
  clear hS l1 l2
  go_wp2
  go_ret
  exact ⟨rfl, HF.out⟩
end Go.Proofs.YtkogfgbgmifcnaaDoor
