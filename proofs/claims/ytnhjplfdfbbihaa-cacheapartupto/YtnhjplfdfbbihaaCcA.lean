/-
  No key comes twice: the loops that compare them; condition: the row of keys lies as told.
-/
import Derived.Test.YtnhjplfdfbbihaaDor
namespace Go.Proofs.Ytnhjplfdfbbihaa
open Go.RowKit Go.Shelf Go.Maps Go.ChangeShapes
set_option linter.unusedVariables false
set_option linter.unusedSimpArgs false
theorem yields_eql29 {ops : Array Oper} {S : World → Prop} {o : Oper} {a : Act} (hgd : o.guard = none) (x y : Operand) (ho : o.op = .binOp .eql 29 x y 29) {k k' : Ky} (h1 : kw k) (h2 : kw k') (hx : a.eval x = .agg (kc k)) (hy : a.eval y = .agg (kc k')) : YieldsIf Try.prog ops S o (.bool (decide (k = k'))) a := by
  refine Or.inl ⟨by simp [Region.wanted, hgd], fun w _ => ?_⟩
  unfold execOp
  simp only [ho, hx, hy, Sem.run_bind, guard29, eql29 w h1 h2, Result.andThen_ok, Sem.run_pure]
theorem rowK_at {w : World} {B g c : Nat} {L : List Ky} (h : w.ownsRow B 29 10 (.slice (some ⟨g, 0, none⟩) L.length c) L.length (flatKy L)) {i : Nat} {x : Ky} (hx : L[i]? = some x) : w.rangeAt g (i * 10) (kc x).toList := fun j v hv => by
  have hj : j < 10 := by have := (List.getElem?_eq_some_iff.1 hv).1; rw [kcl_len] at this; exact this
  have h2 := flat_at (f := fun k => (kc k).toList) (fun x _ => kcl_len x) hx j hj
  obtain ⟨g', c', e1, hc, _⟩ := own_cells h (h2.trans hv)
  cases e1
  exact hc
set_option maxRecDepth 100000 in
set_option maxHeartbeats 8000000 in
theorem once_keys {W : World} {B cap : Nat} {ka : Option Addr} {L : List Ky} (hO : W.ownsRow B 29 10 (.slice ka L.length cap) L.length (flatKy L)) (hN : L.length ≤ 1000) (hw : ∀ k ∈ L, kw k) (hd : L.Pairwise (fun a b => a ≠ b)) {Q : Exit → Act → World → Prop} {u0 u1 u2 u3 u4 u5 u6 u7 u8 u9 u10 u11 u12 u13 u15 u16 u17 u18 u19 u20 u21 u22 u23 u24 u25 u26 u27 u28 u29 u30 u31 u32 u33 u34 u35 u36 u37 u38 u39 u40 u41 u42 u43 u44 u45 u46 u47 u48 u49 u50 u51 u52 u53 u54 u55 u56 u57 u58 u59 u60 u61 u62 u63 u64 u65 u66 u67 u68 u69 u70 u71 u72 u73 u74 u75 u76 u77 u78 u81 u82 u83 u84 u85 u86 u87 u88 u89 u90 u91 u92 u93 u94 u95 u96 u97 u98 u99 u100 u101 : Value}
    (hH : Hid (∀ W2, Fr [] W W2 → ∀ n4 n15 n16 n80 n81 n82 n83 n84 n85 n86 n87 n88 n89 n90 n91 n92 n93 n94 n95 n96 n97 n98 n99 n100, Q .normal { tmps := #[u0, u1, u2, u3, n4, u5, u6, u7, u8, u9, u10, u11, u12, u13, .slice ka L.length cap, n15, n16, u17, u18, u19, u20, u21, u22, u23, u24, u25, u26, u27, u28, u29, u30, u31, u32, u33, u34, u35, u36, u37, u38, u39, u40, u41, u42, u43, u44, u45, u46, u47, u48, u49, u50, u51, u52, u53, u54, u55, u56, u57, u58, u59, u60, u61, u62, u63, u64, u65, u66, u67, u68, u69, u70, u71, u72, u73, u74, u75, u76, u77, u78, .int .i64 (L.length : Nat), n80, n81, n82, n83, n84, n85, n86, n87, n88, n89, n90, n91, n92, n93, n94, n95, n96, n97, n98, n99, n100, u101], defers := [] } W2)) :
    (sub Try.f6 [1, 1, 1, 1, 1, 1, 1, 0, 1, 0, 0, 1, 1, 0, 0, 1, 1, 1, 1, 1, 1, 0]).wp Try.prog (Exit.inBlock 4 Q) { tmps := #[u0, u1, u2, u3, u4, u5, u6, u7, u8, u9, u10, u11, u12, u13, .slice ka L.length cap, u15, u16, u17, u18, u19, u20, u21, u22, u23, u24, u25, u26, u27, u28, u29, u30, u31, u32, u33, u34, u35, u36, u37, u38, u39, u40, u41, u42, u43, u44, u45, u46, u47, u48, u49, u50, u51, u52, u53, u54, u55, u56, u57, u58, u59, u60, u61, u62, u63, u64, u65, u66, u67, u68, u69, u70, u71, u72, u73, u74, u75, u76, u77, u78, .int .i64 (L.length : Nat), .int .i64 0, u81, u82, u83, u84, u85, u86, u87, u88, u89, u90, u91, u92, u93, u94, u95, u96, u97, u98, u99, u100, u101], defers := [] } W := by
  have HO : Hid (W.ownsRow B 29 10 (.slice ka L.length cap) L.length (flatKy L)) := hO
  have HN : Hid ((∀ k ∈ L, kw k) ∧ L.Pairwise (fun a b => a ≠ b)) := ⟨hw, hd⟩
  have hni : ka = none → L.length = 0 := fun e => by
    rcases hO.2 with ⟨_, e2⟩ | ⟨g, cp, cur, e1, _⟩
    · exact e2
    · rw [e] at e1; cases e1
  have G0 : Hid (Fr [] W W) := Fr.refl _ _
  clear hO hw hd
  dsimp only [sub, nav, kid, Try.f6, Option.getD, if_true, if_false]
  go_wp2
  go_loopw [80] (fun i wr => ∃ q : Nat, q ≤ L.length ∧ i = .int .i64 q ∧ Hid (Fr [] W wr)) (fun i _ => L.length - (intOf i).toNat)
  case atStart => exact ⟨0, Nat.zero_le _, rfl, G0⟩
  case round =>
    obtain ⟨q, hq, rfl, G⟩ := hrel
    clear G0
    by_cases hlt : q < L.length
    · have hltI : (q : Int) < L.length := by omega
      have hql : (q : Int) ≤ 1000 := by omega
      obtain ⟨x, hx⟩ : ∃ x, L[q]? = some x := ⟨_, List.getElem?_eq_getElem hlt⟩
      obtain ⟨g, rfl⟩ : ∃ g, ka = some ⟨g, 0, none⟩ := by
        obtain ⟨g, c', e1, _⟩ := own_cells HO.out (j := q * 10) (List.getElem?_eq_getElem (by rw [flatKy_len]; omega))
        cases e1; exact ⟨g, rfl⟩
      have hcap : L.length ≤ cap := by
        rcases HO.out.2 with ⟨e1, _⟩ | ⟨g', cp, cur, e1, _, _, h3, _⟩
        · cases e1
        · cases e1; exact h3
      have hcapI : (q : Int) ≤ cap := by omega
      have HX : Hid (L[q]? = some x) := hx
      clear hx hni
      go_wp2
      go_loopw [87] (fun i wr => ∃ r : Nat, r ≤ q ∧ i = .int .i64 r ∧ Hid (Fr [] W wr)) (fun i _ => q - (intOf i).toNat)
      case atStart => exact ⟨0, Nat.zero_le _, rfl, G⟩
      case round =>
        obtain ⟨r, hr, rfl, G2⟩ := hrel
        clear G
        by_cases hrt : r < q
        · have hrI : (r : Int) < q := by omega
          have hrL : (r : Int) < L.length := by omega
          obtain ⟨y, hy⟩ : ∃ y, L[r]? = some y := ⟨_, List.getElem?_eq_getElem (by omega)⟩
          have hne : decide (x = y) = false := by
            obtain ⟨h1, h2⟩ := List.getElem?_eq_some_iff.1 HX.out
            obtain ⟨h3, h4⟩ := List.getElem?_eq_some_iff.1 hy
            have := (List.pairwise_iff_getElem.1 HN.out.2) r q h3 h1 hrt
            rw [h2, h4] at this
            simp [Ne.symm this]
          have HE : Hid (decide (x = y) = false) := hne
          have RX : Hid (∀ w', Fr [] wr w' → w'.rangeAt g (q * 10) (kc x).toList) := fun w' f => rowK_at (own_fr HO.out (G2.out.trans f) (by simp)) HX.out
          have RY : Hid (∀ w', Fr [] wr w' → w'.rangeAt g (r * 10) (kc y).toList) := fun w' f => rowK_at (own_fr HO.out (G2.out.trans f) (by simp)) hy
          have HK : Hid (kw x ∧ kw y) := ⟨HN.out.1 _ (List.mem_of_getElem? HX.out), HN.out.1 _ (List.mem_of_getElem? hy)⟩
          clear hne hy
          go_upto_region 29 with fail
          refine reg_in (fun w' => Fr [] wr w') ?_
          have hS : Fr [] wr wr.drew := (Fr.refl _ _).drew
          generalize wr.drew = Y at *
          refine tk 0 (some 90) (.slice (some ⟨g, 0, none⟩) L.length cap) rfl rfl (Or.inl ⟨rfl, fun wq hSq => by first | rfl | go_simp⟩) (by decide +kernel) hS ?_
          simp only [Act.put, List.setIfInBounds_toArray, List.set_cons_zero, List.set_cons_succ]
          refine tk 1 (some 91) (.int .i64 q) rfl rfl (Or.inl ⟨rfl, fun wq hSq => by first | rfl | go_simp⟩) (by decide +kernel) hS ?_
          simp only [Act.put, List.setIfInBounds_toArray, List.set_cons_zero, List.set_cons_succ]
          refine tk 2 (some 92) (.pointer (some ⟨g, q * 10, none⟩)) rfl rfl (Or.inl ⟨rfl, fun wq hSq => by go_simp⟩) (by decide +kernel) hS ?_
          simp only [Act.put, List.setIfInBounds_toArray, List.set_cons_zero, List.set_cons_succ]
          refine tk 3 (some 93) (.agg (kc x)) rfl rfl ?_ (by decide +kernel) hS ?_
          · exact yieldsIf_load_mid rfl 29 (.tmp 92) rfl g (q * 10) rfl (kc x).toList _ (fun wq hSq => RX.out wq hSq) Try.underlying29 rfl (by rw [info29]; simp [kc_size])
          simp only [Act.put, List.setIfInBounds_toArray, List.set_cons_zero, List.set_cons_succ]
          refine tk 4 (some 94) (.slice (some ⟨g, 0, none⟩) L.length cap) rfl rfl (Or.inl ⟨rfl, fun wq hSq => by first | rfl | go_simp⟩) (by decide +kernel) hS ?_
          simp only [Act.put, List.setIfInBounds_toArray, List.set_cons_zero, List.set_cons_succ]
          refine tk 5 (some 95) (.int .i64 r) rfl rfl (Or.inl ⟨rfl, fun wq hSq => by first | rfl | go_simp⟩) (by decide +kernel) hS ?_
          simp only [Act.put, List.setIfInBounds_toArray, List.set_cons_zero, List.set_cons_succ]
          refine tk 6 (some 96) (.pointer (some ⟨g, r * 10, none⟩)) rfl rfl (Or.inl ⟨rfl, fun wq hSq => by go_simp⟩) (by decide +kernel) hS ?_
          simp only [Act.put, List.setIfInBounds_toArray, List.set_cons_zero, List.set_cons_succ]
          refine tk 7 (some 97) (.agg (kc y)) rfl rfl ?_ (by decide +kernel) hS ?_
          · exact yieldsIf_load_mid rfl 29 (.tmp 96) rfl g (r * 10) rfl (kc y).toList _ (fun wq hSq => RY.out wq hSq) Try.underlying29 rfl (by rw [info29]; simp [kc_size])
          simp only [Act.put, List.setIfInBounds_toArray, List.set_cons_zero, List.set_cons_succ]
          refine tk 8 (some 98) (.bool (decide (x = y))) rfl rfl ?_ (by decide +kernel) hS ?_
          · exact yields_eql29 rfl (.tmp 93) (.tmp 97) rfl HK.out.1 HK.out.2 rfl rfl
          simp only [Act.put, List.setIfInBounds_toArray, List.set_cons_zero, List.set_cons_succ]
          refine wpAnyH_done (by decide +kernel) ?_ _
          refine plain_end ?_
          rw [HE.out]
          have HG : Hid (Fr [] W Y) := G2.out.trans hS
          clear hS G2 RX RY HK HE
          go_wp2
          go_roundw
          case rel => exact ⟨r + 1, hrt, by go_num, HG⟩
          case measure => simp [intOf]; omega
        · obtain rfl : r = q := by omega
          have HG : Hid (Fr [] W wr) := G2.out
          clear G2
          go_wp2
          go_roundw
          case rel => exact ⟨r + 1, hlt, by go_num, HG⟩
          case measure => simp [intOf]; omega
    · obtain rfl : q = L.length := by omega
      go_wp2
      exact hH.out wr G.out _ _ _ _ _ _ _ _ _ _ _ _ _ _ _ _ _ _ _ _ _ _ _ _
end Go.Proofs.Ytnhjplfdfbbihaa
