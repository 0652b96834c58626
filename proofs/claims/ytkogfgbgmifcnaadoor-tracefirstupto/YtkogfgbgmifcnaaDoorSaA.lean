/-
  Lists of sources and of numbers held against each other; condition: they lie as told.
-/
import Derived.Test.YtkogfgbgmifcnaaDoorTcD
import Derived.Test.YtkogfgbgmifcnaaDoorCaG
namespace Go.Proofs.YtkogfgbgmifcnaaDoor
open Go.RowKit
set_option linter.unusedVariables false
set_option linter.unusedSimpArgs false
theorem take_more {α : Type} {L M : List α} {p : Nat} {x : α} (h : L.take p = M.take p) (hx : L[p]? = some x) (hy : M[p]? = some x) : L.take (p + 1) = M.take (p + 1) := by
  rw [List.take_add_one, List.take_add_one, h, hx, hy]
theorem yieldsIf_bin {ops : Array Oper} {S : World → Prop} {o : Oper} {a : Act} {r : Value} (hwt : Region.wanted o (yielded ops a.tmps) = true) (op : BinOp) (ty : TypeId) (x y : Operand) (ho : o.op = .binOp op ty x y ty) (u v : Value) (hx : a.eval x = u) (hy : a.eval y = v)
    (hg : ∀ w, S w → (eqGuard op ty x y u v).run Tryd.prog w = .ok () w) (hr : ∀ w, S w → (binOp op ty u v).run Tryd.prog w = .ok r w) : YieldsIf Tryd.prog ops S o r a :=
  .inl ⟨hwt, fun w hS => by
    unfold execOp
    simp only [ho, hx, hy, Sem.run_bind, hg w hS, hr w hS, Result.andThen_ok, Sem.run_pure]⟩
set_option maxRecDepth 100000 in
set_option maxHeartbeats 4000000 in
theorem same48 {w : World} {B c c2 : Nat} {a a2 : Option Addr} {L M : List Sr} (h1 : SL w B 51 a L.length c 4 32 (flatS L)) (h2 : SL w B 51 a2 M.length c2 4 32 (flatS M)) (hw : ∀ s ∈ L, s.w) (hv : ∀ s ∈ M, s.w) :
    Calls Tryd.prog 48 #[.slice a L.length c, .slice a2 M.length c2] w fun e w' => e = .returned (.bool (decide (L = M))) ∧ Fr [] w w' := by
  have hfit : (L.length : Int) ≤ 140737488355328 := by have := h1.fit; omega
  by_cases hM : M.length = L.length
  · rw [hM] at h2 ⊢
    have hn : ¬ (L.length : Int) ≠ L.length := by simp
    have H1 : Hid (SL w B 51 a L.length c 4 32 (flatS L)) := h1
    have H2 : Hid (M.length = L.length ∧ SL w B 51 a2 M.length c2 4 32 (flatS M)) := ⟨hM, by rw [hM]; exact h2⟩
    have HW : Hid ((∀ s ∈ L, s.w) ∧ (∀ s ∈ M, s.w)) := ⟨hw, hv⟩
    have F0 : Hid (Fr [] w w) := Fr.refl _ _
    clear h1 h2 hw hv hM
    go_enter Tryd.func48, Tryd.ntmps48
    go_wp2
    go_loopw [13] (fun i wr => ∃ p : Nat, p ≤ L.length ∧ i = .int .i64 p ∧ Hid (Fr [] w wr ∧ L.take p = M.take p)) (fun i _ => L.length - (intOf i).toNat)
    case atStart => exact ⟨0, Nat.zero_le _, rfl, F0.out, rfl⟩
    case round =>
      obtain ⟨p, hp, rfl, F⟩ := hrel
      by_cases hlt : p < L.length
      · have hpI : (p : Int) < L.length := by omega
        have hx : L[p]? = some (L[p]) := List.getElem?_eq_getElem _
        have hlt2 : p < M.length := by rw [H2.out.1]; exact hlt
        have hy : M[p]? = some (M[p]) := List.getElem?_eq_getElem _
        have hxm := List.mem_of_getElem? hx
        have hym := List.mem_of_getElem? hy
        generalize L[p] = s at hx hxm
        generalize M[p] = s2 at hy hym
        obtain ⟨b, o, rfl, r1, _⟩ := H1.out.elem (f := Sr.cl) (fun x _ => x.cl_len) (by omega) hx
        obtain ⟨b2, o2, rfl, r2, _⟩ := H2.out.2.elem (f := Sr.cl) (fun x _ => x.cl_len) (by omega) hy
        have l1 : ∀ w', Fr [] wr w' → w'.rangeAt b (o + p * 4) s.cl := fun w' f => range_fr r1 (F.out.1.trans f)
        have l2 : ∀ w', Fr [] wr w' → w'.rangeAt b2 (o2 + p * 4) s2.cl := fun w' f => range_fr r2 (F.out.1.trans f)
        have hsw : s.w := HW.out.1 s hxm
        have hsv : s2.w := HW.out.2 s2 hym
        have HE : Hid (L[p]? = some s ∧ M[p]? = some s2) := ⟨hx, hy⟩
        clear r1 r2 hx hxm hy hym hlt2
        go_upto_region 6 with fail
        refine reg_in (fun w' => Fr [] wr w') ?_
        have hS : Fr [] wr wr.drew := (Fr.refl _ _).drew
        generalize wr.drew = Y at *
        refine tk 0 (some 16) (.slice (some ⟨b, o, none⟩) L.length c) rfl rfl (Or.inl ⟨rfl, fun wq hSq => by first | rfl | go_simp⟩) (by decide +kernel) hS ?_
        simp only [Act.put, List.setIfInBounds_toArray, List.set_cons_zero, List.set_cons_succ]
        refine tk 1 (some 17) (.int .i64 (p : Int)) rfl rfl (Or.inl ⟨rfl, fun wq hSq => by first | rfl | go_simp⟩) (by decide +kernel) hS ?_
        simp only [Act.put, List.setIfInBounds_toArray, List.set_cons_zero, List.set_cons_succ]
        refine tk 2 (some 18) (.pointer (some ⟨b, o + p * 4, none⟩)) rfl rfl (Or.inl ⟨rfl, fun wq hSq => by first | rfl | go_simp⟩) (by decide +kernel) hS ?_
        simp only [Act.put, List.setIfInBounds_toArray, List.set_cons_zero, List.set_cons_succ]
        refine tk 3 (some 19) (.agg s.cl.toArray) rfl rfl ?_ (by decide +kernel) hS ?_
        · exact yieldsIf_load_mid (by rfl) 51 (.tmp 18) rfl b (o + p * 4) rfl s.cl _ (fun w' hS' => l1 w' hS') Tryd.underlying51 rfl info51
        simp only [Act.put, List.setIfInBounds_toArray, List.set_cons_zero, List.set_cons_succ]
        refine tk 4 (some 20) (.slice (some ⟨b2, o2, none⟩) L.length c2) rfl rfl (Or.inl ⟨rfl, fun wq hSq => by first | rfl | go_simp⟩) (by decide +kernel) hS ?_
        simp only [Act.put, List.setIfInBounds_toArray, List.set_cons_zero, List.set_cons_succ]
        refine tk 5 (some 21) (.int .i64 (p : Int)) rfl rfl (Or.inl ⟨rfl, fun wq hSq => by first | rfl | go_simp⟩) (by decide +kernel) hS ?_
        simp only [Act.put, List.setIfInBounds_toArray, List.set_cons_zero, List.set_cons_succ]
        refine tk 6 (some 22) (.pointer (some ⟨b2, o2 + p * 4, none⟩)) rfl rfl (Or.inl ⟨rfl, fun wq hSq => by first | rfl | go_simp⟩) (by decide +kernel) hS ?_
        simp only [Act.put, List.setIfInBounds_toArray, List.set_cons_zero, List.set_cons_succ]
        refine tk 7 (some 23) (.agg s2.cl.toArray) rfl rfl ?_ (by decide +kernel) hS ?_
        · exact yieldsIf_load_mid (by rfl) 51 (.tmp 22) rfl b2 (o2 + p * 4) rfl s2.cl _ (fun w' hS' => l2 w' hS') Tryd.underlying51 rfl info51
        simp only [Act.put, List.setIfInBounds_toArray, List.set_cons_zero, List.set_cons_succ]
        refine tk 8 (some 24) (.bool (!decide (s = s2))) rfl rfl ?_ (by decide +kernel) hS ?_
        · exact yieldsIf_bin rfl .neq 51 (.tmp 19) (.tmp 23) rfl _ _ rfl rfl (fun w _ => eguard109 w .neq _ _ _ _ (.inr rfl)) (fun w _ => neq51 w hsw hsv)
        simp only [Act.put, List.setIfInBounds_toArray, List.set_cons_zero, List.set_cons_succ]
        refine wpAnyH_done (by decide +kernel) ?_ _
        refine plain_end ?_
        have HF : Hid (Fr [] w Y) := F.out.1.trans hS
        clear l1 l2 hsw hsv hS
        by_cases hs : s = s2
        · subst hs
          simp only [decide_true, Bool.not_true]
          go_wp2
          go_roundw
          case rel => exact ⟨p + 1, hlt, by go_num, HF.out, take_more F.out.2 HE.out.1 HE.out.2⟩
          case measure => simp [intOf]; omega
        · rw [decide_eq_false hs]
          simp only [Bool.not_false]
          have hne : decide (L = M) = false := decide_eq_false (fun h => by subst h; have := HE.out.1.symm.trans HE.out.2; injection this with this; exact hs this)
          go_wp2
          go_ret
          exact ⟨by rw [hne]; rfl, HF.out⟩
      · obtain rfl : p = L.length := by omega
        have hT : L = M := by have h := F.out.2; rw [List.take_length, ← H2.out.1, List.take_length] at h; exact h
        have hne : decide (L = M) = true := decide_eq_true hT
        clear hT
        go_wp2
        go_ret
        exact ⟨by rw [hne]; rfl, F.out.1⟩
  · have hne : decide (L = M) = false := decide_eq_false (fun h => hM (by rw [h]))
    have hnI : ¬ (L.length : Int) = M.length := fun h => hM (by omega)
    rw [hne]
    clear hM hne h1 h2 hw hv
    go_enter Tryd.func48, Tryd.ntmps48
    go_wp2
    go_ret
    exact ⟨rfl, Fr.refl _ _⟩
set_option maxRecDepth 100000 in
set_option maxHeartbeats 4000000 in
theorem same49 {w : World} {B c c2 : Nat} {a a2 : Option Addr} {L M : List Sr} (h1 : SL w B 51 a L.length c 4 32 (flatS L)) (h2 : SL w B 51 a2 M.length c2 4 32 (flatS M)) (hw : ∀ s ∈ L, s.w) (hv : ∀ s ∈ M, s.w) :
    Calls Tryd.prog 49 #[.slice a L.length c, .slice a2 M.length c2] w fun e w' => e = .returned (.bool (decide (L = M))) ∧ Fr [] w w' := by
  have hfit : (L.length : Int) ≤ 140737488355328 := by have := h1.fit; omega
  by_cases hM : M.length = L.length
  · rw [hM] at h2 ⊢
    have hn : ¬ (L.length : Int) ≠ L.length := by simp
    have H1 : Hid (SL w B 51 a L.length c 4 32 (flatS L)) := h1
    have H2 : Hid (M.length = L.length ∧ SL w B 51 a2 M.length c2 4 32 (flatS M)) := ⟨hM, by rw [hM]; exact h2⟩
    have HW : Hid ((∀ s ∈ L, s.w) ∧ (∀ s ∈ M, s.w)) := ⟨hw, hv⟩
    have F0 : Hid (Fr [] w w) := Fr.refl _ _
    clear h1 h2 hw hv hM
    go_enter Tryd.func49, Tryd.ntmps49
    go_wp2
    go_loopw [13] (fun i wr => ∃ p : Nat, p ≤ L.length ∧ i = .int .i64 p ∧ Hid (Fr [] w wr ∧ L.take p = M.take p)) (fun i _ => L.length - (intOf i).toNat)
    case atStart => exact ⟨0, Nat.zero_le _, rfl, F0.out, rfl⟩
    case round =>
      obtain ⟨p, hp, rfl, F⟩ := hrel
      by_cases hlt : p < L.length
      · have hpI : (p : Int) < L.length := by omega
        have hx : L[p]? = some (L[p]) := List.getElem?_eq_getElem _
        have hlt2 : p < M.length := by rw [H2.out.1]; exact hlt
        have hy : M[p]? = some (M[p]) := List.getElem?_eq_getElem _
        have hxm := List.mem_of_getElem? hx
        have hym := List.mem_of_getElem? hy
        generalize L[p] = s at hx hxm
        generalize M[p] = s2 at hy hym
        obtain ⟨b, o, rfl, r1, _⟩ := H1.out.elem (f := Sr.cl) (fun x _ => x.cl_len) (by omega) hx
        obtain ⟨b2, o2, rfl, r2, _⟩ := H2.out.2.elem (f := Sr.cl) (fun x _ => x.cl_len) (by omega) hy
        have l1 : ∀ w', Fr [] wr w' → w'.rangeAt b (o + p * 4) s.cl := fun w' f => range_fr r1 (F.out.1.trans f)
        have l2 : ∀ w', Fr [] wr w' → w'.rangeAt b2 (o2 + p * 4) s2.cl := fun w' f => range_fr r2 (F.out.1.trans f)
        have hsw : s.w := HW.out.1 s hxm
        have hsv : s2.w := HW.out.2 s2 hym
        have HE : Hid (L[p]? = some s ∧ M[p]? = some s2) := ⟨hx, hy⟩
        clear r1 r2 hx hxm hy hym hlt2
        go_upto_region 6 with fail
        refine reg_in (fun w' => Fr [] wr w') ?_
        have hS : Fr [] wr wr.drew := (Fr.refl _ _).drew
        generalize wr.drew = Y at *
        refine tk 0 (some 16) (.slice (some ⟨b, o, none⟩) L.length c) rfl rfl (Or.inl ⟨rfl, fun wq hSq => by first | rfl | go_simp⟩) (by decide +kernel) hS ?_
        simp only [Act.put, List.setIfInBounds_toArray, List.set_cons_zero, List.set_cons_succ]
        refine tk 1 (some 17) (.int .i64 (p : Int)) rfl rfl (Or.inl ⟨rfl, fun wq hSq => by first | rfl | go_simp⟩) (by decide +kernel) hS ?_
        simp only [Act.put, List.setIfInBounds_toArray, List.set_cons_zero, List.set_cons_succ]
        refine tk 2 (some 18) (.pointer (some ⟨b, o + p * 4, none⟩)) rfl rfl (Or.inl ⟨rfl, fun wq hSq => by first | rfl | go_simp⟩) (by decide +kernel) hS ?_
        simp only [Act.put, List.setIfInBounds_toArray, List.set_cons_zero, List.set_cons_succ]
        refine tk 3 (some 19) (.agg s.cl.toArray) rfl rfl ?_ (by decide +kernel) hS ?_
        · exact yieldsIf_load_mid (by rfl) 51 (.tmp 18) rfl b (o + p * 4) rfl s.cl _ (fun w' hS' => l1 w' hS') Tryd.underlying51 rfl info51
        simp only [Act.put, List.setIfInBounds_toArray, List.set_cons_zero, List.set_cons_succ]
        refine tk 4 (some 20) (.slice (some ⟨b2, o2, none⟩) L.length c2) rfl rfl (Or.inl ⟨rfl, fun wq hSq => by first | rfl | go_simp⟩) (by decide +kernel) hS ?_
        simp only [Act.put, List.setIfInBounds_toArray, List.set_cons_zero, List.set_cons_succ]
        refine tk 5 (some 21) (.int .i64 (p : Int)) rfl rfl (Or.inl ⟨rfl, fun wq hSq => by first | rfl | go_simp⟩) (by decide +kernel) hS ?_
        simp only [Act.put, List.setIfInBounds_toArray, List.set_cons_zero, List.set_cons_succ]
        refine tk 6 (some 22) (.pointer (some ⟨b2, o2 + p * 4, none⟩)) rfl rfl (Or.inl ⟨rfl, fun wq hSq => by first | rfl | go_simp⟩) (by decide +kernel) hS ?_
        simp only [Act.put, List.setIfInBounds_toArray, List.set_cons_zero, List.set_cons_succ]
        refine tk 7 (some 23) (.agg s2.cl.toArray) rfl rfl ?_ (by decide +kernel) hS ?_
        · exact yieldsIf_load_mid (by rfl) 51 (.tmp 22) rfl b2 (o2 + p * 4) rfl s2.cl _ (fun w' hS' => l2 w' hS') Tryd.underlying51 rfl info51
        simp only [Act.put, List.setIfInBounds_toArray, List.set_cons_zero, List.set_cons_succ]
        refine tk 8 (some 24) (.bool (!decide (s = s2))) rfl rfl ?_ (by decide +kernel) hS ?_
        · exact yieldsIf_bin rfl .neq 51 (.tmp 19) (.tmp 23) rfl _ _ rfl rfl (fun w _ => eguard109 w .neq _ _ _ _ (.inr rfl)) (fun w _ => neq51 w hsw hsv)
        simp only [Act.put, List.setIfInBounds_toArray, List.set_cons_zero, List.set_cons_succ]
        refine wpAnyH_done (by decide +kernel) ?_ _
        refine plain_end ?_
        have HF : Hid (Fr [] w Y) := F.out.1.trans hS
        clear l1 l2 hsw hsv hS
        by_cases hs : s = s2
        · subst hs
          simp only [decide_true, Bool.not_true]
          go_wp2
          go_roundw
          case rel => exact ⟨p + 1, hlt, by go_num, HF.out, take_more F.out.2 HE.out.1 HE.out.2⟩
          case measure => simp [intOf]; omega
        · rw [decide_eq_false hs]
          simp only [Bool.not_false]
          have hne : decide (L = M) = false := decide_eq_false (fun h => by subst h; have := HE.out.1.symm.trans HE.out.2; injection this with this; exact hs this)
          go_wp2
          go_ret
          exact ⟨by rw [hne]; rfl, HF.out⟩
      · obtain rfl : p = L.length := by omega
        have hT : L = M := by have h := F.out.2; rw [List.take_length, ← H2.out.1, List.take_length] at h; exact h
        have hne : decide (L = M) = true := decide_eq_true hT
        clear hT
        go_wp2
        go_ret
        exact ⟨by rw [hne]; rfl, F.out.1⟩
  · have hne : decide (L = M) = false := decide_eq_false (fun h => hM (by rw [h]))
    have hnI : ¬ (L.length : Int) = M.length := fun h => hM (by omega)
    rw [hne]
    clear hM hne h1 h2 hw hv
    go_enter Tryd.func49, Tryd.ntmps49
    go_wp2
    go_ret
    exact ⟨rfl, Fr.refl _ _⟩
set_option maxRecDepth 100000 in
set_option maxHeartbeats 4000000 in
theorem same41 {w : World} {B c c2 : Nat} {a a2 : Option Addr} {L M : List Int} (h1 : SL w B 3 a L.length c 1 8 (L.map (Value.int .i64))) (h2 : SL w B 3 a2 M.length c2 1 8 (M.map (Value.int .i64))) :
    Calls Tryd.prog 41 #[.slice a L.length c, .slice a2 M.length c2] w fun e w' => e = .returned (.bool (decide (L = M))) ∧ Fr [] w w' := by
  have hfit : (L.length : Int) ≤ 140737488355328 := by have := h1.fit; omega
  by_cases hM : M.length = L.length
  · rw [hM] at h2 ⊢
    have hn : ¬ (L.length : Int) ≠ L.length := by simp
    have H1 : Hid (SL w B 3 a L.length c 1 8 (L.map (Value.int .i64))) := h1
    have H2 : Hid (M.length = L.length ∧ SL w B 3 a2 M.length c2 1 8 (M.map (Value.int .i64))) := ⟨hM, by rw [hM]; exact h2⟩
    have F0 : Hid (Fr [] w w) := Fr.refl _ _
    clear h1 h2 hM
    go_enter Tryd.func41, Tryd.ntmps41
    go_wp2
    go_loopw [13] (fun i wr => ∃ p : Nat, p ≤ L.length ∧ i = .int .i64 p ∧ Hid (Fr [] w wr ∧ L.take p = M.take p)) (fun i _ => L.length - (intOf i).toNat)
    case atStart => exact ⟨0, Nat.zero_le _, rfl, F0.out, rfl⟩
    case round =>
      obtain ⟨p, hp, rfl, F⟩ := hrel
      by_cases hlt : p < L.length
      · have hpI : (p : Int) < L.length := by omega
        have hx : L[p]? = some (L[p]) := List.getElem?_eq_getElem _
        have hlt2 : p < M.length := by rw [H2.out.1]; exact hlt
        have hy : M[p]? = some (M[p]) := List.getElem?_eq_getElem _
        generalize L[p] = s at hx
        generalize M[p] = s2 at hy
        obtain ⟨b, o, e1, r1, _⟩ := H1.out.cell p (.int .i64 s) (by simp [hx])
        obtain ⟨b2, o2, e2, r2, _⟩ := H2.out.2.cell p (.int .i64 s2) (by simp [hy])
        subst e1 e2
        have l1 : ∀ w', Fr [] wr w' → w'.cell? ⟨b, o + p, none⟩ = some (.int .i64 s) := fun w' f => (F.out.1.trans f).cell1 r1 (by simp)
        have l2 : ∀ w', Fr [] wr w' → w'.cell? ⟨b2, o2 + p, none⟩ = some (.int .i64 s2) := fun w' f => (F.out.1.trans f).cell1 r2 (by simp)
        have HE : Hid (L[p]? = some s ∧ M[p]? = some s2) := ⟨hx, hy⟩
        clear r1 r2 hx hy hlt2
        go_upto_region 6 with fail
        refine reg_in (fun w' => Fr [] wr w') ?_
        have hS : Fr [] wr wr.drew := (Fr.refl _ _).drew
        generalize wr.drew = Y at *
        refine tk 0 (some 16) (.slice (some ⟨b, o, none⟩) L.length c) rfl rfl (Or.inl ⟨rfl, fun wq hSq => by first | rfl | go_simp⟩) (by decide +kernel) hS ?_
        simp only [Act.put, List.setIfInBounds_toArray, List.set_cons_zero, List.set_cons_succ]
        refine tk 1 (some 17) (.int .i64 (p : Int)) rfl rfl (Or.inl ⟨rfl, fun wq hSq => by first | rfl | go_simp⟩) (by decide +kernel) hS ?_
        simp only [Act.put, List.setIfInBounds_toArray, List.set_cons_zero, List.set_cons_succ]
        refine tk 2 (some 18) (.pointer (some ⟨b, o + p, none⟩)) rfl rfl (Or.inl ⟨rfl, fun wq hSq => by first | rfl | go_simp⟩) (by decide +kernel) hS ?_
        simp only [Act.put, List.setIfInBounds_toArray, List.set_cons_zero, List.set_cons_succ]
        refine tk 3 (some 19) (.int .i64 s) rfl rfl (Or.inl ⟨rfl, fun wq hSq => by (have q := l1 wq hSq; go_simp)⟩) (by decide +kernel) hS ?_
        simp only [Act.put, List.setIfInBounds_toArray, List.set_cons_zero, List.set_cons_succ]
        refine tk 4 (some 20) (.slice (some ⟨b2, o2, none⟩) L.length c2) rfl rfl (Or.inl ⟨rfl, fun wq hSq => by first | rfl | go_simp⟩) (by decide +kernel) hS ?_
        simp only [Act.put, List.setIfInBounds_toArray, List.set_cons_zero, List.set_cons_succ]
        refine tk 5 (some 21) (.int .i64 (p : Int)) rfl rfl (Or.inl ⟨rfl, fun wq hSq => by first | rfl | go_simp⟩) (by decide +kernel) hS ?_
        simp only [Act.put, List.setIfInBounds_toArray, List.set_cons_zero, List.set_cons_succ]
        refine tk 6 (some 22) (.pointer (some ⟨b2, o2 + p, none⟩)) rfl rfl (Or.inl ⟨rfl, fun wq hSq => by first | rfl | go_simp⟩) (by decide +kernel) hS ?_
        simp only [Act.put, List.setIfInBounds_toArray, List.set_cons_zero, List.set_cons_succ]
        refine tk 7 (some 23) (.int .i64 s2) rfl rfl (Or.inl ⟨rfl, fun wq hSq => by (have q := l2 wq hSq; go_simp)⟩) (by decide +kernel) hS ?_
        simp only [Act.put, List.setIfInBounds_toArray, List.set_cons_zero, List.set_cons_succ]
        have HF : Hid (Fr [] w Y) := F.out.1.trans hS
        by_cases hs : s = s2
        · subst hs
          refine tk 8 (some 24) (.bool false) rfl rfl (Or.inl ⟨rfl, fun wq hSq => by go_simp⟩) (by decide +kernel) hS ?_
          simp only [Act.put, List.setIfInBounds_toArray, List.set_cons_zero, List.set_cons_succ]
          refine wpAnyH_done (by decide +kernel) ?_ _
          refine plain_end ?_
          clear l1 l2 hS
          go_wp2
          go_roundw
          case rel => exact ⟨p + 1, hlt, by go_num, HF.out, take_more F.out.2 HE.out.1 HE.out.2⟩
          case measure => simp [intOf]; omega
        · refine tk 8 (some 24) (.bool true) rfl rfl (Or.inl ⟨rfl, fun wq hSq => by go_simp⟩) (by decide +kernel) hS ?_
          simp only [Act.put, List.setIfInBounds_toArray, List.set_cons_zero, List.set_cons_succ]
          refine wpAnyH_done (by decide +kernel) ?_ _
          refine plain_end ?_
          clear l1 l2 hS
          have hne : decide (L = M) = false := decide_eq_false (fun h => by subst h; have := HE.out.1.symm.trans HE.out.2; injection this with this; exact hs this)
          go_wp2
          go_ret
          exact ⟨by rw [hne]; rfl, HF.out⟩
      · obtain rfl : p = L.length := by omega
        have hT : L = M := by have h := F.out.2; rw [List.take_length, ← H2.out.1, List.take_length] at h; exact h
        have hne : decide (L = M) = true := decide_eq_true hT
        clear hT
        go_wp2
        go_ret
        exact ⟨by rw [hne]; rfl, F.out.1⟩
  · have hne : decide (L = M) = false := decide_eq_false (fun h => hM (by rw [h]))
    have hnI : ¬ (L.length : Int) = M.length := fun h => hM (by omega)
    rw [hne]
    clear hM hne h1 h2
    go_enter Tryd.func41, Tryd.ntmps41
    go_wp2
    go_ret
    exact ⟨rfl, Fr.refl _ _⟩
end Go.Proofs.YtkogfgbgmifcnaaDoor
