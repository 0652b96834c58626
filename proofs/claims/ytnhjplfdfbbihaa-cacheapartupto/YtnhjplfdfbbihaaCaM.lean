/-
  Lists of sources held against each other, where they are alike; condition: they lie as told.
-/
import Derived.Test.YtnhjplfdfbbihaaCaG
import Derived.Test.YtnhjplfdfbbihaaCaL
namespace Go.Proofs.Ytnhjplfdfbbihaa
open Go.RowKit
set_option linter.unusedVariables false
set_option linter.unusedSimpArgs false
theorem info109 : (Try.prog.info? 109).map (·.size) = some 4 := by kernel_rfl
/-- The cells of an element of a row that nobody writes. -/
theorem SL.elem {α : Type} {f : α → List Value} {m : Nat} {w : World} {B : Nat} {e : TypeId} {a : Option Addr} {c y : Nat} {L : List α} (h : SL w B e a L.length c m y (L.flatMap f)) (hm : ∀ x ∈ L, (f x).length = m) (h0 : 0 < m) {i : Nat} {x : α} (hx : L[i]? = some x) :
    ∃ b o, a = some ⟨b, o, none⟩ ∧ w.rangeAt b (o + i * m) (f x) ∧ okb w B e b := by
  have hl : (f x).length = m := hm x (List.mem_of_getElem? hx)
  have h1 := flat_at hm hx 0 h0
  obtain ⟨b, o, e1, _, hb⟩ := h.cell _ _ (h1.trans (List.getElem?_eq_getElem (by omega)))
  refine ⟨b, o, e1, fun j v hv => ?_, hb⟩
  have hj : j < m := by have := (List.getElem?_eq_some_iff.1 hv).1; omega
  have h2 := flat_at hm hx j hj
  obtain ⟨b', o', e2, hc, _⟩ := h.cell _ _ (h2.trans hv)
  rw [e1] at e2
  cases e2
  rw [Nat.add_assoc]
  exact hc
theorem yieldsIf_bin {ops : Array Oper} {S : World → Prop} {o : Oper} {a : Act} {r : Value} (hwt : Region.wanted o (yielded ops a.tmps) = true) (op : BinOp) (ty : TypeId) (x y : Operand) (ho : o.op = .binOp op ty x y ty) (u v : Value) (hx : a.eval x = u) (hy : a.eval y = v)
    (hg : ∀ w, S w → (eqGuard op ty x y u v).run Try.prog w = .ok () w) (hr : ∀ w, S w → (binOp op ty u v).run Try.prog w = .ok r w) : YieldsIf Try.prog ops S o r a :=
  .inl ⟨hwt, fun w hS => by
    unfold execOp
    simp only [ho, hx, hy, Sem.run_bind, hg w hS, hr w hS, Result.andThen_ok, Sem.run_pure]⟩
theorem range_fr {w w' : World} {b o : Nat} {cs : List Value} (h : w.rangeAt b o cs) (f : Fr [] w w') : w'.rangeAt b o cs := fun j v hv => f.cell1 (h j v hv) (by simp)

set_option maxRecDepth 100000 in
set_option maxHeartbeats 4000000 in
theorem same34_any {w : World} {B c c2 : Nat} {a a2 : Option Addr} {L : List Sr} (h1 : SL w B 109 a L.length c 4 32 (flatS L)) (h2 : SL w B 109 a2 L.length c2 4 32 (flatS L)) (hw : ∀ s ∈ L, s.w) :
    Calls Try.prog 34 #[.slice a L.length c, .slice a2 L.length c2] w fun e w' => e = .returned (.bool true) ∧ Fr [] w w' := by
  have hn : ¬ (L.length : Int) ≠ L.length := by simp
  have hfit : (L.length : Int) ≤ 140737488355328 := by have := h1.fit; omega
  have H1 : Hid (SL w B 109 a L.length c 4 32 (flatS L)) := h1
  have H2 : Hid (SL w B 109 a2 L.length c2 4 32 (flatS L)) := h2
  have HW : Hid (∀ s ∈ L, s.w) := hw
  have F0 : Hid (Fr [] w w) := Fr.refl _ _
  clear h1 h2 hw
  go_enter Try.func34, Try.ntmps34
  go_wp2
  go_loopw [13] (fun i wr => ∃ p : Nat, p ≤ L.length ∧ i = .int .i64 p ∧ Hid (Fr [] w wr)) (fun i _ => L.length - (intOf i).toNat)
  case atStart => exact ⟨0, Nat.zero_le _, rfl, F0⟩
  case round =>
    obtain ⟨p, hp, rfl, F⟩ := hrel
    by_cases hlt : p < L.length
    · have hpI : (p : Int) < L.length := by omega
      have hx : L[p]? = some (L[p]) := List.getElem?_eq_getElem _
      have hxm := List.mem_of_getElem? hx
      generalize L[p] = s at hx hxm
      obtain ⟨b, o, rfl, r1, _⟩ := H1.out.elem (f := Sr.cl) (fun x _ => x.cl_len) (by omega) hx
      obtain ⟨b2, o2, rfl, r2, _⟩ := H2.out.elem (f := Sr.cl) (fun x _ => x.cl_len) (by omega) hx
      have l1 : ∀ w', Fr [] wr w' → w'.rangeAt b (o + p * 4) s.cl := fun w' f => range_fr r1 (F.out.trans f)
      have l2 : ∀ w', Fr [] wr w' → w'.rangeAt b2 (o2 + p * 4) s.cl := fun w' f => range_fr r2 (F.out.trans f)
      have hsw : s.w := HW.out s hxm
      clear r1 r2 hx hxm
      go_upto_region 6 with fail
      refine reg_in (fun w' => Fr [] wr w') ?_
      have hS : Fr [] wr wr.drew := (Fr.refl _ _).drew
      generalize wr.drew = Y at *
      refine tk 0 (some 16) (.slice (some ⟨b, o, none⟩) L.length c) rfl rfl (Or.inl ⟨rfl, fun wq hSq => by first | rfl | go_simp⟩) (by decide +kernel) hS ?_
      simp only [Act.put, List.setIfInBounds_toArray, List.set_cons_zero, List.set_cons_succ]
      refine tk 1 (some 17) (.int .i64 (p : Int)) rfl rfl (Or.inl ⟨rfl, fun wq hSq => by first | rfl | go_simp⟩) (by decide +kernel) hS ?_
      simp only [Act.put, List.setIfInBounds_toArray, List.set_cons_zero, List.set_cons_succ]
      refine tk 2 (some 18) (.pointer (some ⟨b, o + p * 4, none⟩)) rfl rfl (Or.inl ⟨rfl, fun wq hSq => by go_simp⟩) (by decide +kernel) hS ?_
      simp only [Act.put, List.setIfInBounds_toArray, List.set_cons_zero, List.set_cons_succ]
      refine tk 3 (some 19) (.agg s.cl.toArray) rfl rfl ?_ (by decide +kernel) hS ?_
      · exact yieldsIf_load_mid (by rfl) 109 (.tmp 18) rfl b (o + p * 4) rfl s.cl _ (fun w' hS' => l1 w' hS') Try.underlying109 rfl info109
      simp only [Act.put, List.setIfInBounds_toArray, List.set_cons_zero, List.set_cons_succ]
      refine tk 4 (some 20) (.slice (some ⟨b2, o2, none⟩) L.length c2) rfl rfl (Or.inl ⟨rfl, fun wq hSq => by first | rfl | go_simp⟩) (by decide +kernel) hS ?_
      simp only [Act.put, List.setIfInBounds_toArray, List.set_cons_zero, List.set_cons_succ]
      refine tk 5 (some 21) (.int .i64 (p : Int)) rfl rfl (Or.inl ⟨rfl, fun wq hSq => by first | rfl | go_simp⟩) (by decide +kernel) hS ?_
      simp only [Act.put, List.setIfInBounds_toArray, List.set_cons_zero, List.set_cons_succ]
      refine tk 6 (some 22) (.pointer (some ⟨b2, o2 + p * 4, none⟩)) rfl rfl (Or.inl ⟨rfl, fun wq hSq => by go_simp⟩) (by decide +kernel) hS ?_
      simp only [Act.put, List.setIfInBounds_toArray, List.set_cons_zero, List.set_cons_succ]
      refine tk 7 (some 23) (.agg s.cl.toArray) rfl rfl ?_ (by decide +kernel) hS ?_
      · exact yieldsIf_load_mid (by rfl) 109 (.tmp 22) rfl b2 (o2 + p * 4) rfl s.cl _ (fun w' hS' => l2 w' hS') Try.underlying109 rfl info109
      simp only [Act.put, List.setIfInBounds_toArray, List.set_cons_zero, List.set_cons_succ]
      refine tk 8 (some 24) (.bool false) rfl rfl ?_ (by decide +kernel) hS ?_
      · exact yieldsIf_bin rfl .neq 109 (.tmp 19) (.tmp 23) rfl _ _ rfl rfl (fun w _ => eguard109 w .neq _ _ _ _ (.inr rfl)) (fun w _ => (neq109 w hsw hsw).trans (by simp))
      simp only [Act.put, List.setIfInBounds_toArray, List.set_cons_zero, List.set_cons_succ]
      refine wpAnyH_done (by decide +kernel) ?_ _
      refine plain_end ?_
      have HF : Hid (Fr [] w Y) := F.out.trans hS
      clear l1 l2 hsw hS
      go_wp2
      go_roundw
      case rel => exact ⟨p + 1, hlt, by go_num, HF⟩
      case measure => simp [intOf]; omega
    · obtain rfl : p = L.length := by omega
      go_wp2
      go_ret
      exact ⟨rfl, F.out⟩
end Go.Proofs.Ytnhjplfdfbbihaa
