/-
  What a link or a Virt takes is told, source by source; conditions: what lies in memory lies as told.
-/
import Derived.Test.YtkogfgbgmifcnaaDoorTcY
namespace Go.Proofs.YtkogfgbgmifcnaaDoor
open Go.RowKit Go.Shelf Go.Maps Go.ChangeShapes
set_option linter.unusedVariables false
set_option linter.unusedSimpArgs false
attribute [local go_sem] Oper.semAt_some store_func
theorem unfrozen {w : World} {k i : Nat} {c : Array Value} {ty : TypeId} (h : w.heap[k]? = some (.cells c ty (0, 0))) : w.frozen? ⟨k, i, none⟩ = false := by simp [World.frozen?, h]
theorem push_own {Y w : World} {n B qb : Nat} {av : Option Addr} {cx : Nat} {W : List Value} {z v1 : Value} (ho : Y.ownsRow B 3 1 (.slice av n cx) n W) (hb : Y.heap[qb]? = some (.cells #[.slice av n cx] 27 (0, 0))) (hown : w.ownsRow B 3 1 v1 (n + 1) (W ++ [z])) (hg : (Y.alloc (.cells #[z] 3)).grownBy w (Value.slice av n cx).ownBlock) (hl : v1.ownBlock = (Value.slice av n cx).ownBlock ∨ v1.ownBlock = some (Y.alloc (.cells #[z] 3)).heap.size) :
    ∃ a1 c1, v1 = .slice a1 (n + 1) c1 ∧ Hid (Fr (Value.slice av n cx).ownBlock.toList Y w ∧ w.heap[qb]? = some (.cells #[.slice av n cx] 27 (0, 0)) ∧ w.ownsRow B 3 1 (.slice a1 (n + 1) c1) (n + 1) (W ++ [z]) ∧ ∀ k, (Value.slice a1 (n + 1) c1).ownBlock = some k → (Value.slice av n cx).ownBlock = some k ∨ Y.heap.size ≤ k) := by
  obtain ⟨a1, c1', rfl, _⟩ := own_slice hown
  have f2 : Fr (Value.slice av n cx).ownBlock.toList Y w := ((Fr.refl _ _).alloc _).trans ((Fr.ofGrown hg).sub (fun k hk => .inl hk))
  have nqo := own_ne ho hb (by decide)
  refine ⟨a1, c1', rfl, f2, (f2.block qb (at_lt hb) (fun hm => nqo (by simpa using hm))).trans hb, hown, fun k hk => ?_⟩
  rcases hl with h | h
  · exact .inl (h ▸ hk)
  · rw [h] at hk
    have e := Option.some.inj hk
    right
    rw [← e]
    exact ((Fr.refl [] Y).alloc _).size
theorem wp_st4 {o : Oper} {a : Act} {w : World} {K : Act → World → Prop} {Q : Exit → Act → World → Prop} (x : Operand) (ho : o.op = .store 4 x (.const (.bool true))) (b i : Nat) (hx : a.eval x = .pointer (some ⟨b, i, none⟩)) {z : Value} (hc : w.cell? ⟨b, i, none⟩ = some z) (hf : w.frozen? ⟨b, i, none⟩ = false)
    (h : K (a.put o.dst undef) (w.setCell ⟨b, i, none⟩ (.bool true))) : o.wp Tryd.prog a w K Q := by
  have hy : a.eval (.const (.bool true)) = .bool true := rfl
  unfold Oper.wp execOp
  simp only [ho, hx, hy]
  have e : (Instr.storeAt 4 (.pointer (some ⟨b, i, none⟩)) (.bool true)).run Tryd.prog w = .ok () (w.setCell ⟨b, i, none⟩ (.bool true)) := by go_simp
  simp only [Sem.run_bind, e, Result.andThen_ok, Sem.run_pure]
  exact h
set_option maxRecDepth 100000 in
set_option maxHeartbeats 16000000 in
theorem tell79 {w0 : World} {B : Nat} {t : Tr} (hT : TrOk w0 B t) {a : Option Addr} {c : Nat} {L : List Sr} (sl : SL w0 B 51 a L.length c 4 32 (flatS L)) (hok : ∀ x ∈ L, srcOk x t.virts.length = true)
    {l b1 wb lk vk qb yb : Nat} {G : List Sr → List Nat → World → Prop} {X : List PanicEntry → World → Prop} {all pre0 : List Sr} {lm : List Bool} {st : List Bool × List Nat}
    (hK : ∀ pre O W, G pre O W → Fr [] w0 W) (hG : ∀ pre O O' W W', G pre O W → Fr O W W' → (∀ k ∈ O', k ∈ O ∨ W.heap.size ≤ k) → (∀ k ∈ O', k < W'.heap.size) → G pre O' W')
    (hY : ∀ pre x O W, G pre O W → (pre ++ [x]) <+: all → x ∈ L → YieldAt Fence.wide 0 Tryd.prog l #[.agg x.cl.toArray] W fun e W' =>
      (e = .returned (.bool true) ∧ G (pre ++ [x]) O W' ∧ W.heap.size ≤ W'.heap.size ∧ ∀ k ∈ O, k < W.heap.size → W'.heap[k]? = W.heap[k]?) ∨ (∃ c, e = .panicked c ∧ X c W'))
    (hall : (pre0 ++ L) <+: all) {Wi : World} (h0 : ∃ O, TW G t l b1 wb lk vk qb yb pre0 lm st O Wi) :
    Calls Tryd.prog 79 #[.slice a L.length c, .pointer (some ⟨b1, 0, none⟩), .pointer (some ⟨qb, 0, none⟩), .pointer (some ⟨yb, 0, none⟩)] Wi fun e W' =>
      (e = .returned (.bool true) ∧ ∃ O, TW G t l b1 wb lk vk qb yb (pre0 ++ L) lm (tellP st L) O W') ∨ (∃ c, e = .panicked c ∧ X c W') := by
  obtain ⟨R, hR⟩ : ∃ R : Ending → World → Prop, R = fun e W' => (e = .returned (.bool true) ∧ ∃ O, TW G t l b1 wb lk vk qb yb (pre0 ++ L) lm (tellP st L) O W') ∨ (∃ c, e = .panicked c ∧ X c W') := ⟨_, rfl⟩
  rw [← hR]
  have HR : Hid (R = fun e W' => (e = .returned (.bool true) ∧ ∃ O, TW G t l b1 wb lk vk qb yb (pre0 ++ L) lm (tellP st L) O W') ∨ (∃ c, e = .panicked c ∧ X c W')) := hR
  have nL : (L.length : Int) ≤ 140737488355328 := by have := sl.fit; omega
  have nV : (t.virts.length : Int) ≤ 140737488355328 := by have := hT.virts.fit; omega
  have HV32 : Hid (t.virts.length * 32 ≤ 140737488355328) := by have := hT.virts.fit; unfold Hid; omega
  have HP : Hid ((∀ x ∈ L, srcOk x t.virts.length = true) ∧ SL w0 B 51 a L.length c 4 32 (flatS L) ∧ (pre0 ++ L) <+: all) := ⟨hok, sl, hall⟩
  have HC : Hid ((∀ pre O W, G pre O W → Fr [] w0 W) ∧ (∀ pre O O' W W', G pre O W → Fr O W W' → (∀ k ∈ O', k ∈ O ∨ W.heap.size ≤ k) → (∀ k ∈ O', k < W'.heap.size) → G pre O' W')) := ⟨hK, hG⟩
  have HYh : Hid _ := hY
  have H0 : Hid _ := h0
  clear hT sl hok hK hG hY hall hR h0
  go_enter Tryd.func79, Tryd.ntmps79
  go_upto_region 2 with fail
  go_loopw [10] (fun i wr => ∃ q : Nat, q ≤ L.length ∧ i = .int .i64 q ∧ Hid (∃ O, TW G t l b1 wb lk vk qb yb (pre0 ++ L.take q) lm (tellP st (L.take q)) O wr)) (fun i _ => L.length - (intOf i).toNat)
  case atStart => exact ⟨0, Nat.zero_le _, rfl, by unfold Hid; simpa [tellP] using H0.out⟩
  case round =>
    obtain ⟨q, hq, rfl, F⟩ := hrel
    clear H0
    by_cases hlt : q < L.length
    · have hltI : (q : Int) < L.length := by omega
      obtain ⟨x, hx⟩ : ∃ x, L[q]? = some x := ⟨_, List.getElem?_eq_getElem hlt⟩
      have hpre : (L.take q ++ [x]) = L.take (q + 1) := by rw [List.take_add_one, hx]; rfl
      have HX : Hid (srcOk x t.virts.length = true ∧ x ∈ L ∧ pre0 ++ L.take (q + 1) = (pre0 ++ L.take q) ++ [x] ∧ tellP st (L.take (q + 1)) = tell1P (tellP st (L.take q)) x ∧ ((pre0 ++ L.take q) ++ [x]) <+: all) := by
        have hm := List.mem_of_getElem? hx
        have e1 : pre0 ++ L.take (q + 1) = (pre0 ++ L.take q) ++ [x] := by rw [← hpre, List.append_assoc]
        refine ⟨HP.out.1 x hm, hm, e1, by rw [← hpre, tellP_snoc], ?_⟩
        rw [← e1]
        exact ((List.prefix_append_right_inj pre0).2 (List.take_prefix _ _)).trans HP.out.2.2
      generalize pre0 ++ L.take q = pre at *
      generalize tellP st (L.take q) = sq at *
      obtain ⟨O, F⟩ := F.out
      obtain ⟨b4, o4, ead, r1, _⟩ := (HP.out.2.1.fr (HC.out.1 _ _ _ F.g) (Away.nil _ _)).elem (f := Sr.cl) (fun x _ => x.cl_len) (by omega) hx
      rw [ead]
      clear hpre hx
      obtain ⟨xk, xvk, xvn, xn⟩ := x
      have R1 : Hid (wr.rangeAt b4 (o4 + q * 4) (Sr.cl ⟨xk, xvk, xvn, xn⟩)) := r1
      have bA := heap_alloc_new wr (.cells #[.int .i64 0, .int .i64 0, .int .i64 0, .int .i64 0] 51)
      have FA : Fr [] wr ((wr.alloc (.cells #[.int .i64 0, .int .i64 0, .int .i64 0, .int .i64 0] 51)).setRow wr.heap.size (Sr.cl ⟨xk, xvk, xvn, xn⟩).toArray) := ((Fr.refl _ _).alloc _).setRow (.inr (Nat.le_refl _)) _
      have bB := setRow_heap (wr.alloc (.cells #[.int .i64 0, .int .i64 0, .int .i64 0, .int .i64 0] 51)) wr.heap.size _ (Sr.cl ⟨xk, xvk, xvn, xn⟩).toArray _ _ bA
      have HA : Hid ((wr.alloc (.cells #[.int .i64 0, .int .i64 0, .int .i64 0, .int .i64 0] 51)).heap[wr.heap.size]? = some (.cells #[.int .i64 0, .int .i64 0, .int .i64 0, .int .i64 0] 51 (0, 0))) := bA
      have FX : Hid (TW G t l b1 wb lk vk qb yb pre lm sq O ((wr.alloc (.cells #[.int .i64 0, .int .i64 0, .int .i64 0, .int .i64 0] 51)).setRow wr.heap.size (Sr.cl ⟨xk, xvk, xvn, xn⟩).toArray)) := F.fr0 HC.out.2 FA
      have BX : Hid (((wr.alloc (.cells #[.int .i64 0, .int .i64 0, .int .i64 0, .int .i64 0] 51)).setRow wr.heap.size (Sr.cl ⟨xk, xvk, xvn, xn⟩).toArray).heap[wr.heap.size]? = some (.cells (Sr.cl ⟨xk, xvk, xvn, xn⟩).toArray 51 (0, 0)) ∧ wr.heap.size ∉ O) := ⟨bB, fun hm => by have := F.ex _ hm; omega⟩
      clear ead r1 bA FA bB F
      go_upto_region 4 with (first
        | refine wpList_load_mid rfl 51 (.tmp 12) rfl b4 (o4 + q * 4) rfl (Sr.cl ⟨xk, xvk, xvn, xn⟩) _ R1.out Tryd.underlying51 rfl (by rw [info51]; rfl) ?_
        | refine wpList_store_row rfl 51 (.tmp 7) (.tmp 13) rfl wr.heap.size (Sr.cl ⟨xk, xvk, xvn, xn⟩).toArray rfl rfl 51 _ HA.out (by rw [info51]; rfl) rfl (by simp [Sr.cl, Sr.il, Value.oneCell']) ?_)
      clear R1 HA
      generalize (wr.alloc (.cells #[.int .i64 0, .int .i64 0, .int .i64 0, .int .i64 0] 51)).setRow wr.heap.size (Sr.cl ⟨xk, xvk, xvn, xn⟩).toArray = Y at *
      generalize wr.heap.size = bx at *
      have c0 : Y.cell? ⟨bx, 0, none⟩ = some (.int .i64 xk) := at_cells BX.out.1 0 rfl
      have c2 : Y.cell? ⟨bx, 3, none⟩ = some (.int .i64 xn) := at_cells BX.out.1 3 rfl
      simp only [Act.put]
      have hS : Fr [] Y Y.drew := (Fr.refl _ _).drew
      by_cases hk2 : xk = 2
      · subst hk2
        have hsrc : 0 ≤ xn ∧ xn ≤ (t.virts.length : Int) - 1 := by
          have h := HX.out.1
          simp [srcOk] at h
          omega
        obtain ⟨n, rfl⟩ : ∃ n : Nat, xn = n := ⟨xn.toNat, by omega⟩
        have hnv : n < t.virts.length := by omega
        have hnI : (n : Int) < t.virts.length := by omega
        obtain ⟨bv, hbv⟩ : ∃ bv, sq.1[n]? = some bv := ⟨_, List.getElem?_eq_getElem (by have := FX.out.wk.vl; simp at this; omega)⟩
        have cb1 : Y.cell? ⟨b1, 0, none⟩ = some (.pointer (some ⟨wb, 0, none⟩)) := at_cells FX.out.b 0 rfl
        have cw : Y.cell? ⟨wb, 18, none⟩ = some (.slice (some ⟨vk, 0, none⟩) t.virts.length t.virts.length) := at_cells FX.out.wk.blk 18 (t.wc_v lk vk)
        have cv : Y.cell? ⟨vk, n, none⟩ = some (.bool bv) := at_cells FX.out.wk.vb n (bools_at hbv)
        clear hsrc
        cases bv
        case true =>
          have HT : Hid (tell1P sq ⟨2, xvk, xvn, (n : Int)⟩ = sq) := by unfold Hid tell1P; rw [if_neg (fun h => by have := h.2; simp only [Int.toNat_natCast] at this; rw [hbv] at this; cases this)]
          clear hbv
          refine reg_in (fun w' => Fr [] Y w') ?_
          refine tk 0 (some 14) (.pointer (some ⟨bx, 0, none⟩)) rfl rfl (Or.inl ⟨rfl, fun wq hSq => by first | rfl | go_simp⟩) (by decide +kernel) hS ?_
          simp only [Act.put, List.setIfInBounds_toArray, List.set_cons_zero, List.set_cons_succ]
          refine tk 1 (some 15) (.int .i64 2) rfl rfl (Or.inl ⟨rfl, fun wq hSq => by have q := hSq.cell1 c0 (by simp); go_simp⟩) (by decide +kernel) hS ?_
          simp only [Act.put, List.setIfInBounds_toArray, List.set_cons_zero, List.set_cons_succ]
          refine tk 2 (some 16) (.bool true) rfl rfl (Or.inl ⟨rfl, fun wq hSq => by first | rfl | go_simp⟩) (by decide +kernel) hS ?_
          simp only [Act.put, List.setIfInBounds_toArray, List.set_cons_zero, List.set_cons_succ]
          refine tk 3 (some 17) (.bool true) rfl rfl (Or.inl ⟨rfl, fun wq hSq => by first | rfl | go_simp⟩) (by decide +kernel) hS ?_
          simp only [Act.put, List.setIfInBounds_toArray, List.set_cons_zero, List.set_cons_succ]
          refine tk 4 (some 18) (.pointer (some ⟨wb, 0, none⟩)) rfl rfl (Or.inl ⟨rfl, fun wq hSq => by have q := hSq.cell1 cb1 (by simp); go_simp⟩) (by decide +kernel) hS ?_
          simp only [Act.put, List.setIfInBounds_toArray, List.set_cons_zero, List.set_cons_succ]
          refine tk 5 (some 19) (.pointer (some ⟨wb, 0, none⟩)) rfl rfl (Or.inl ⟨rfl, fun wq hSq => by first | rfl | go_simp⟩) (by decide +kernel) hS ?_
          simp only [Act.put, List.setIfInBounds_toArray, List.set_cons_zero, List.set_cons_succ]
          refine tk 6 (some 20) (.pointer (some ⟨wb, 18, none⟩)) rfl rfl (Or.inl ⟨rfl, fun wq hSq => by first | rfl | go_simp⟩) (by decide +kernel) hS ?_
          simp only [Act.put, List.setIfInBounds_toArray, List.set_cons_zero, List.set_cons_succ]
          refine tk 7 (some 21) (.slice (some ⟨vk, 0, none⟩) t.virts.length t.virts.length) rfl rfl (Or.inl ⟨rfl, fun wq hSq => by have q := hSq.cell1 cw (by simp); go_simp⟩) (by decide +kernel) hS ?_
          simp only [Act.put, List.setIfInBounds_toArray, List.set_cons_zero, List.set_cons_succ]
          refine tk 8 (some 22) (.pointer (some ⟨bx, 3, none⟩)) rfl rfl (Or.inl ⟨rfl, fun wq hSq => by first | rfl | go_simp⟩) (by decide +kernel) hS ?_
          simp only [Act.put, List.setIfInBounds_toArray, List.set_cons_zero, List.set_cons_succ]
          refine tk 9 (some 23) (.int .i64 (n : Int)) rfl rfl (Or.inl ⟨rfl, fun wq hSq => by have q := hSq.cell1 c2 (by simp); go_simp⟩) (by decide +kernel) hS ?_
          simp only [Act.put, List.setIfInBounds_toArray, List.set_cons_zero, List.set_cons_succ]
          refine tk 10 (some 24) (.pointer (some ⟨vk, n, none⟩)) rfl rfl (Or.inl ⟨rfl, fun wq hSq => by first | rfl | go_simp⟩) (by decide +kernel) hS ?_
          simp only [Act.put, List.setIfInBounds_toArray, List.set_cons_zero, List.set_cons_succ]
          refine tk 11 (some 25) (.bool true) rfl rfl (Or.inl ⟨rfl, fun wq hSq => by have q := hSq.cell1 cv (by simp); go_simp⟩) (by decide +kernel) hS ?_
          simp only [Act.put, List.setIfInBounds_toArray, List.set_cons_zero, List.set_cons_succ]
          refine tk 12 (some 26) (.bool false) rfl rfl (Or.inl ⟨rfl, fun wq hSq => by first | rfl | go_simp⟩) (by decide +kernel) hS ?_
          simp only [Act.put, List.setIfInBounds_toArray, List.set_cons_zero, List.set_cons_succ]
          refine tk 13 (some 27) (.bool false) rfl rfl (Or.inl ⟨rfl, fun wq hSq => by first | rfl | go_simp⟩) (by decide +kernel) hS ?_
          simp only [Act.put, List.setIfInBounds_toArray, List.set_cons_zero, List.set_cons_succ]
          refine wpAnyH_done (by decide +kernel) ?_ _
          refine plain_end ?_
          clear c0 c2 cb1 cw cv
          have fD : Fr [] Y Y.drew := (Fr.refl _ _).drew
          have FX2 : Hid (TW G t l b1 wb lk vk qb yb pre lm sq O Y.drew) := FX.out.fr0 HC.out.2 fD
          have BX2 : Hid (Y.drew.heap[bx]? = some (.cells (Sr.cl ⟨2, xvk, xvn, (n : Int)⟩).toArray 51 (0, 0)) ∧ bx ∉ O) := ⟨(fD.block _ (at_lt BX.out.1) (by simp)).trans BX.out.1, BX.out.2⟩
          have RX : Hid (Y.drew.rangeAt bx 0 (Sr.cl ⟨2, xvk, xvn, (n : Int)⟩)) := range_block BX2.out.1
          clear fD FX BX hS
          generalize Y.drew = Y1 at *
          go_upto_region 7 with fail
          have HYY : Hid _ := HYh.out _ ⟨2, xvk, xvn, (n : Int)⟩ _ _ FX2.out.g HX.out.2.2.2.2 HX.out.2.1
          obtain ⟨fn, tmps, assign, body, hyd, hRR⟩ := HYY.out
          have c3 : Y1.cell? ⟨yb, 0, none⟩ = some (.func (.yield l) #[] #[]) := at_cells FX2.out.y 0 rfl
          refine (wpIn_wide (n := 0)).1 ?_
          gi_wp2_with (refine in_load rfl 51 (.tmp 7) rfl bx 0 rfl (Sr.cl ⟨2, xvk, xvn, (n : Int)⟩) _ RX.out Tryd.underlying51 rfl (by rw [info51]; rfl) ?_)
          refine ⟨rfl, hRR.mono ?_⟩
          rintro e W2 (⟨rfl, g4, hsz, hkp⟩ | ⟨cp, rfl, hxp⟩)
          · have HF : Hid (∃ O, TW G t l b1 wb lk vk qb yb (pre ++ [⟨2, xvk, xvn, (n : Int)⟩]) lm sq O W2) := ⟨_, FX2.out.told g4 hsz hkp⟩
            clear hRR hyd g4 hsz hkp c3 HYY
            gi_wp2
            go_wp2
            go_roundw
            case rel => exact ⟨q + 1, hlt, by go_num, by rw [HX.out.2.2.1, HX.out.2.2.2.1, HT.out]; exact HF.out⟩
            case measure => simp [intOf]; omega
          · show ([] : List Deferred) = [] ∧ R (.panicked cp) W2
            rw [HR.out]
            exact ⟨rfl, .inr ⟨cp, rfl, hxp⟩⟩
        case false =>
          have HT : Hid (tell1P sq ⟨2, xvk, xvn, (n : Int)⟩ = (sq.1.set n true, sq.2 ++ [n])) := by unfold Hid tell1P; rw [if_pos ⟨rfl, by simpa using hbv⟩]; rfl
          have HB : Hid (sq.1[n]? = some false) := hbv
          clear hbv
          refine reg_in (fun w' => Fr [] Y w') ?_
          refine tk 0 (some 14) (.pointer (some ⟨bx, 0, none⟩)) rfl rfl (Or.inl ⟨rfl, fun wq hSq => by first | rfl | go_simp⟩) (by decide +kernel) hS ?_
          simp only [Act.put, List.setIfInBounds_toArray, List.set_cons_zero, List.set_cons_succ]
          refine tk 1 (some 15) (.int .i64 2) rfl rfl (Or.inl ⟨rfl, fun wq hSq => by have q := hSq.cell1 c0 (by simp); go_simp⟩) (by decide +kernel) hS ?_
          simp only [Act.put, List.setIfInBounds_toArray, List.set_cons_zero, List.set_cons_succ]
          refine tk 2 (some 16) (.bool true) rfl rfl (Or.inl ⟨rfl, fun wq hSq => by first | rfl | go_simp⟩) (by decide +kernel) hS ?_
          simp only [Act.put, List.setIfInBounds_toArray, List.set_cons_zero, List.set_cons_succ]
          refine tk 3 (some 17) (.bool true) rfl rfl (Or.inl ⟨rfl, fun wq hSq => by first | rfl | go_simp⟩) (by decide +kernel) hS ?_
          simp only [Act.put, List.setIfInBounds_toArray, List.set_cons_zero, List.set_cons_succ]
          refine tk 4 (some 18) (.pointer (some ⟨wb, 0, none⟩)) rfl rfl (Or.inl ⟨rfl, fun wq hSq => by have q := hSq.cell1 cb1 (by simp); go_simp⟩) (by decide +kernel) hS ?_
          simp only [Act.put, List.setIfInBounds_toArray, List.set_cons_zero, List.set_cons_succ]
          refine tk 5 (some 19) (.pointer (some ⟨wb, 0, none⟩)) rfl rfl (Or.inl ⟨rfl, fun wq hSq => by first | rfl | go_simp⟩) (by decide +kernel) hS ?_
          simp only [Act.put, List.setIfInBounds_toArray, List.set_cons_zero, List.set_cons_succ]
          refine tk 6 (some 20) (.pointer (some ⟨wb, 18, none⟩)) rfl rfl (Or.inl ⟨rfl, fun wq hSq => by first | rfl | go_simp⟩) (by decide +kernel) hS ?_
          simp only [Act.put, List.setIfInBounds_toArray, List.set_cons_zero, List.set_cons_succ]
          refine tk 7 (some 21) (.slice (some ⟨vk, 0, none⟩) t.virts.length t.virts.length) rfl rfl (Or.inl ⟨rfl, fun wq hSq => by have q := hSq.cell1 cw (by simp); go_simp⟩) (by decide +kernel) hS ?_
          simp only [Act.put, List.setIfInBounds_toArray, List.set_cons_zero, List.set_cons_succ]
          refine tk 8 (some 22) (.pointer (some ⟨bx, 3, none⟩)) rfl rfl (Or.inl ⟨rfl, fun wq hSq => by first | rfl | go_simp⟩) (by decide +kernel) hS ?_
          simp only [Act.put, List.setIfInBounds_toArray, List.set_cons_zero, List.set_cons_succ]
          refine tk 9 (some 23) (.int .i64 (n : Int)) rfl rfl (Or.inl ⟨rfl, fun wq hSq => by have q := hSq.cell1 c2 (by simp); go_simp⟩) (by decide +kernel) hS ?_
          simp only [Act.put, List.setIfInBounds_toArray, List.set_cons_zero, List.set_cons_succ]
          refine tk 10 (some 24) (.pointer (some ⟨vk, n, none⟩)) rfl rfl (Or.inl ⟨rfl, fun wq hSq => by first | rfl | go_simp⟩) (by decide +kernel) hS ?_
          simp only [Act.put, List.setIfInBounds_toArray, List.set_cons_zero, List.set_cons_succ]
          refine tk 11 (some 25) (.bool false) rfl rfl (Or.inl ⟨rfl, fun wq hSq => by have q := hSq.cell1 cv (by simp); go_simp⟩) (by decide +kernel) hS ?_
          simp only [Act.put, List.setIfInBounds_toArray, List.set_cons_zero, List.set_cons_succ]
          refine tk 12 (some 26) (.bool true) rfl rfl (Or.inl ⟨rfl, fun wq hSq => by first | rfl | go_simp⟩) (by decide +kernel) hS ?_
          simp only [Act.put, List.setIfInBounds_toArray, List.set_cons_zero, List.set_cons_succ]
          refine tk 13 (some 27) (.bool true) rfl rfl (Or.inl ⟨rfl, fun wq hSq => by first | rfl | go_simp⟩) (by decide +kernel) hS ?_
          simp only [Act.put, List.setIfInBounds_toArray, List.set_cons_zero, List.set_cons_succ]
          refine wpAnyH_done (by decide +kernel) ?_ _
          refine plain_end ?_
          clear c0 c2 cb1 cw cv
          have fD : Fr [] Y Y.drew := (Fr.refl _ _).drew
          have FX2 : Hid (TW G t l b1 wb lk vk qb yb pre lm sq O Y.drew) := FX.out.fr0 HC.out.2 fD
          have BX2 : Hid (Y.drew.heap[bx]? = some (.cells (Sr.cl ⟨2, xvk, xvn, (n : Int)⟩).toArray 51 (0, 0)) ∧ bx ∉ O) := ⟨(fD.block _ (at_lt BX.out.1) (by simp)).trans BX.out.1, BX.out.2⟩
          have RX : Hid (Y.drew.rangeAt bx 0 (Sr.cl ⟨2, xvk, xvn, (n : Int)⟩)) := range_block BX2.out.1
          clear fD FX BX hS
          generalize Y.drew = Y1 at *
          go_upto_region 5 with fail
          have n1 : b1 ∉ [vk] := fun h => by simp at h; have e1 := FX2.out.b; rw [h, FX2.out.wk.vb] at e1; simp at e1
          have n2 : wb ∉ [vk] := fun h => by simp at h; have e1 := FX2.out.wk.blk; rw [h, FX2.out.wk.vb] at e1; simp at e1
          have n3 : bx ∉ [vk] := fun h => by simp at h; exact BX2.out.2 (h ▸ FX2.out.inO.2.2.1)
          have cb1 : Y1.cell? ⟨b1, 0, none⟩ = some (.pointer (some ⟨wb, 0, none⟩)) := at_cells FX2.out.b 0 rfl
          have cw : Y1.cell? ⟨wb, 18, none⟩ = some (.slice (some ⟨vk, 0, none⟩) t.virts.length t.virts.length) := at_cells FX2.out.wk.blk 18 (t.wc_v lk vk)
          have cv : Y1.drew.cell? ⟨vk, n, none⟩ = some (.bool false) := at_cells (w := Y1.drew) FX2.out.wk.vb n (bools_at HB.out)
          have c2 : Y1.cell? ⟨bx, 3, none⟩ = some (.int .i64 (n : Int)) := at_cells BX2.out.1 3 rfl
          have hv2 : Y1.drew.heap[vk]? = some (.cells (bools sq.1) 4 (0, 0)) := FX2.out.wk.vb
          refine reg_in (fun w' => Fr [vk] Y1 w') ?_
          have hS : Fr [vk] Y1 Y1.drew := ((Fr.refl [] _).drew).sub (by simp)
          generalize Y1.drew = Y2 at *
          refine tk 0 (some 28) (.pointer (some ⟨wb, 0, none⟩)) rfl rfl (Or.inl ⟨rfl, fun wq hSq => by have q := hSq.cell1 cb1 n1; go_simp⟩) (by decide +kernel) hS ?_
          simp only [Act.put, List.setIfInBounds_toArray, List.set_cons_zero, List.set_cons_succ]
          refine tk 1 (some 29) (.pointer (some ⟨wb, 0, none⟩)) rfl rfl (Or.inl ⟨rfl, fun wq hSq => by first | rfl | go_simp⟩) (by decide +kernel) hS ?_
          simp only [Act.put, List.setIfInBounds_toArray, List.set_cons_zero, List.set_cons_succ]
          refine tk 2 (some 30) (.pointer (some ⟨wb, 18, none⟩)) rfl rfl (Or.inl ⟨rfl, fun wq hSq => by first | rfl | go_simp⟩) (by decide +kernel) hS ?_
          simp only [Act.put, List.setIfInBounds_toArray, List.set_cons_zero, List.set_cons_succ]
          refine tk 3 (some 31) (.slice (some ⟨vk, 0, none⟩) t.virts.length t.virts.length) rfl rfl (Or.inl ⟨rfl, fun wq hSq => by have q := hSq.cell1 cw n2; go_simp⟩) (by decide +kernel) hS ?_
          simp only [Act.put, List.setIfInBounds_toArray, List.set_cons_zero, List.set_cons_succ]
          refine tk 4 (some 32) (.pointer (some ⟨bx, 3, none⟩)) rfl rfl (Or.inl ⟨rfl, fun wq hSq => by first | rfl | go_simp⟩) (by decide +kernel) hS ?_
          simp only [Act.put, List.setIfInBounds_toArray, List.set_cons_zero, List.set_cons_succ]
          refine tk 5 (some 33) (.int .i64 (n : Int)) rfl rfl (Or.inl ⟨rfl, fun wq hSq => by have q := hSq.cell1 c2 n3; go_simp⟩) (by decide +kernel) hS ?_
          simp only [Act.put, List.setIfInBounds_toArray, List.set_cons_zero, List.set_cons_succ]
          refine tk 6 (some 34) (.pointer (some ⟨vk, n, none⟩)) rfl rfl (Or.inl ⟨rfl, fun wq hSq => by first | rfl | go_simp⟩) (by decide +kernel) hS ?_
          simp only [Act.put, List.setIfInBounds_toArray, List.set_cons_zero, List.set_cons_succ]
          refine wpAnyH_ready (rs := [7]) (by decide +kernel) (by simp) ?_
          refine AllReadyH.cons rfl (fun K hK => ?_) AllReadyH.nil
          refine wp_st4 (.tmp 34) rfl vk n rfl cv (by simp [World.frozen?, hv2]) ?_
          have hS3 : Fr [vk] Y1 (Y2.setCell ⟨vk, n, none⟩ (.bool true)) := hS.setCell (.inl (by simp)) _
          have hv3 : (Y2.setCell ⟨vk, n, none⟩ (.bool true)).heap[vk]? = some (.cells (bools (sq.1.set n true)) 4 (0, 0)) := by rw [← bools_set]; simp [World.setCell, Array.getElem?_modify, hv2]
          refine hK.out _ _ hS3 (fun _ => ?_)
          clear hK K
          try simp only [List.getElem_toArray, List.getElem_cons_succ, List.getElem_cons_zero, Act.put, List.setIfInBounds_toArray, List.set_cons_zero, List.set_cons_succ]
          refine wpAnyH_done (by decide +kernel) ?_ _
          refine plain_end ?_
          generalize Y2.setCell ⟨vk, n, none⟩ (.bool true) = Y3 at *
          clear hS hv2 cv cb1 cw c2
          have hb0 := FX2.out.row
          obtain ⟨av, cx, hb, ho, hxo⟩ := hb0
          have nq : qb ∉ [vk] := fun h => by simp at h; rw [h, FX2.out.wk.vb] at hb; simp at hb
          have nov : (Value.slice av sq.2.length cx).ownBlock ≠ some vk := own_ne ho FX2.out.wk.vb (by decide)
          have hb3 := (hS3.block _ (at_lt hb) nq).trans hb
          have ho3 := own_fr ho hS3 (fun k hk hm => by simp at hm; subst hm; exact nov hk)
          have bx3 := (hS3.block _ (at_lt BX2.out.1) n3).trans BX2.out.1
          have ca : Y3.cell? ⟨qb, 0, none⟩ = some (.slice av sq.2.length cx) := at_cells hb3 0 rfl
          have cq : Y3.cell? ⟨bx, 3, none⟩ = some (.int .i64 (n : Int)) := at_cells bx3 3 rfl
          obtain ⟨i3, hi3, hz3, hs3, hbb3⟩ := info_parts ci3
          have hcl : sq.2.length ≤ t.virts.length := by have := FX2.out.cnt; omega
          have h32 := HV32.out
          have hlI : (sq.2.length : Int) ≤ 140737488355328 := by omega
          have HSV : Hid (Fr [vk] Y1 Y3 ∧ Y3.heap[vk]? = some (.cells (bools (sq.1.set n true)) 4 (0, 0)) ∧ Y3.heap[qb]? = some (.cells #[.slice av sq.2.length cx] 27 (0, 0)) ∧ qb ≠ vk ∧ bx ≠ qb) := ⟨hS3, hv3, hb3, by simpa using nq, fun h => BX2.out.2 (h ▸ FX2.out.inO.2.2.2.1)⟩
          have HOX : Hid (Y1.ownsRow 0 3 1 (.slice av sq.2.length cx) sq.2.length (sq.2.map fun n => Value.int .i64 (n : Nat)) ∧ ∀ k, (Value.slice av sq.2.length cx).ownBlock = some k → k ∈ O) := ⟨ho, hxo⟩
          have HO3 : Hid (Y3.ownsRow 0 3 1 (.slice av sq.2.length cx) sq.2.length (sq.2.map fun n => Value.int .i64 (n : Nat))) := ho3
          clear hb ho hxo hS3 hv3 hb3 bx3 nq n1 n2 n3 nov ho3 
          have HLQ : Hid (sq.2.length * 32 ≤ 140737488355328) := by unfold Hid; omega
          clear hcl h32
          go_upto_region 7 with (at_builtin; refine wpList_append_own_at _ rfl _ _ 27 rfl 0 3 i3 (.int .i64 0) 1 8 cu27 hi3 hz3 hs3 hbb3 rfl (by decide) (.slice av sq.2.length cx) sq.2.length (sq.2.map fun n => Value.int .i64 (n : Nat)) rfl (HO3.out.alloc _) ⟨Y3.heap.size, 0, none⟩ 1 1 [.int .i64 (n : Int)] rfl rfl (one_new Y3 _) (by simp [Value.oneCell']) (by have := HLQ.out; unfold maxLen; omega) (by have := HLQ.out; omega) (Nat.zero_le _) ?_; intro v1 w3 hown1 hgrow hnil hloc; obtain ⟨a1, c1', rfl, HW3⟩ := push_own HO3.out HSV.out.2.2.1 hown1 hgrow hloc; have z1 := HW3.out.2.1; have cb1 : w3.cell? ⟨qb, 0, none⟩ = some (.slice av sq.2.length cx) := at_cells z1 0 rfl; have fb1 : w3.frozen? ⟨qb, 0, none⟩ = false := unfrozen z1; clear z1 hown1 hgrow hnil hloc ca)
          obtain ⟨f2, z1, o1, ob1⟩ := HW3.out
          have f3 : Fr [qb] w3 (w3.setCell ⟨qb, 0, none⟩ (.slice a1 (sq.2.length + 1) c1')) := Fr.setCell (Fr.refl _ _) (.inl (by simp)) _
          have q3 := set_same (v := .slice a1 (sq.2.length + 1) c1') z1
          generalize w3.setCell ⟨qb, 0, none⟩ (.slice a1 (sq.2.length + 1) c1') = Z at *
          have keep : ∀ {k : Nat} {o : Obj}, Y1.heap[k]? = some o → k ≠ vk → (Value.slice av sq.2.length cx).ownBlock ≠ some k → k ≠ qb → Z.heap[k]? = some o := fun {k o} h h1 h2 h3 => by
            have e1 := (HSV.out.1.block _ (at_lt h) (by simpa using h1)).trans h
            have e2 := (f2.block _ (at_lt e1) (fun hm => h2 (by simpa using hm))).trans e1
            exact (f3.block _ (at_lt e2) (by simpa using h3)).trans e2
          have nt : ∀ {k k' : Nat} {A A' : Array Value} {ty ty' : TypeId}, Y1.heap[k]? = some (.cells A ty (0, 0)) → Y1.heap[k']? = some (.cells A' ty' (0, 0)) → ty ≠ ty' → k ≠ k' := fun h h' hn e => by
            subst e
            rw [h] at h'
            simp at h'
            exact hn h'.2
          have f : Fr O Y1 Z := ((HSV.out.1.sub (fun k hk => by simp at hk; subst hk; exact .inl FX2.out.inO.2.2.1)).trans (f2.sub (fun k hk => .inl (HOX.out.2 k (by simpa using hk))))).trans (f3.sub (fun k hk => by simp at hk; subst hk; exact .inl FX2.out.inO.2.2.2.1))
          have nov := own_ne HO3.out HSV.out.2.1 (by decide)
          have hv4 := (f2.block _ (at_lt HSV.out.2.1) (fun hm => nov (by simpa using hm))).trans HSV.out.2.1
          have hv5 := (f3.block _ (at_lt hv4) (by have := HSV.out.2.2.2.1; simp; exact fun h => this h.symm)).trans hv4
          have nqo := own_ne o1 z1 (by decide)
          obtain ⟨ay, cy, hqb, _, _⟩ := FX2.out.row
          have sz := HSV.out.1.size
          obtain ⟨O', FT⟩ := FX2.out.push HC.out.2 HB.out f hv5
            ((keep FX2.out.wk.blk (nt FX2.out.wk.blk FX2.out.wk.vb (by decide)) (own_ne HOX.out.1 FX2.out.wk.blk (by decide)) (nt FX2.out.wk.blk hqb (by decide))).trans FX2.out.wk.blk.symm)
            ((keep FX2.out.wk.lb FX2.out.wk.ne (own_ne HOX.out.1 FX2.out.wk.lb (by decide)) (nt FX2.out.wk.lb hqb (by decide))).trans FX2.out.wk.lb.symm)
            ((keep FX2.out.y (nt FX2.out.y FX2.out.wk.vb (by decide)) (own_ne HOX.out.1 FX2.out.y (by decide)) (nt FX2.out.y hqb (by decide))).trans FX2.out.y.symm)
            ((keep FX2.out.b (nt FX2.out.b FX2.out.wk.vb (by decide)) (own_ne HOX.out.1 FX2.out.b (by decide)) (nt FX2.out.b hqb (by decide))).trans FX2.out.b.symm)
            q3 (own_fr o1 f3 (fun k hk hm => by simp at hm; subst hm; exact nqo hk)) (fun k hk => (ob1 k hk).imp (HOX.out.2 k) (fun h => Nat.le_trans sz h))
          have FTh : Hid _ := FT
          have RX3 : Hid (Z.rangeAt bx 0 (Sr.cl ⟨2, xvk, xvn, (n : Int)⟩)) := range_block ((f.block _ (at_lt BX2.out.1) BX2.out.2).trans BX2.out.1)
          clear f2 z1 o1 ob1 f3 q3 keep nt f nov hv4 hv5 nqo hqb sz FT HW3 HSV HOX HO3 RX BX2 FX2 HB
          have HYY : Hid _ := HYh.out _ ⟨2, xvk, xvn, (n : Int)⟩ _ _ FTh.out.g HX.out.2.2.2.2 HX.out.2.1
          obtain ⟨fn, tmps, assign, body, hyd, hRR⟩ := HYY.out
          have c3 : Z.cell? ⟨yb, 0, none⟩ = some (.func (.yield l) #[] #[]) := at_cells FTh.out.y 0 rfl
          refine (wpIn_wide (n := 0)).1 ?_
          gi_wp2_with (refine in_load rfl 51 (.tmp 7) rfl bx 0 rfl (Sr.cl ⟨2, xvk, xvn, (n : Int)⟩) _ RX3.out Tryd.underlying51 rfl (by rw [info51]; rfl) ?_)
          refine ⟨rfl, hRR.mono ?_⟩
          rintro e W2 (⟨rfl, g4, hsz, hkp⟩ | ⟨cp, rfl, hxp⟩)
          · have HF : Hid (∃ O, TW G t l b1 wb lk vk qb yb (pre ++ [⟨2, xvk, xvn, (n : Int)⟩]) lm (sq.1.set n true, sq.2 ++ [n]) O W2) := ⟨_, FTh.out.told g4 hsz hkp⟩
            clear hRR hyd g4 hsz hkp c3 HYY
            gi_wp2
            go_wp2
            go_roundw
            case rel => exact ⟨q + 1, hlt, by go_num, by rw [HX.out.2.2.1, HX.out.2.2.2.1, HT.out]; exact HF.out⟩
            case measure => simp [intOf]; omega
          · show ([] : List Deferred) = [] ∧ R (.panicked cp) W2
            rw [HR.out]
            exact ⟨rfl, .inr ⟨cp, rfl, hxp⟩⟩
      · have hkf : (xk == 2) = false := beq_int_false hk2
        have HT : Hid (tell1P sq ⟨xk, xvk, xvn, xn⟩ = sq) := by unfold Hid tell1P; rw [if_neg (fun h => hk2 h.1)]
        clear hk2
        refine reg_in (fun w' => Fr [] Y w') ?_
        refine tk 0 (some 14) (.pointer (some ⟨bx, 0, none⟩)) rfl rfl (Or.inl ⟨rfl, fun wq hSq => by first | rfl | go_simp⟩) (by decide +kernel) hS ?_
        simp only [Act.put, List.setIfInBounds_toArray, List.set_cons_zero, List.set_cons_succ]
        refine tk 1 (some 15) (.int .i64 xk) rfl rfl (Or.inl ⟨rfl, fun wq hSq => by have q := hSq.cell1 c0 (by simp); go_simp⟩) (by decide +kernel) hS ?_
        simp only [Act.put, List.setIfInBounds_toArray, List.set_cons_zero, List.set_cons_succ]
        refine tk 2 (some 16) (.bool false) rfl rfl (Or.inl ⟨rfl, fun wq hSq => by first | rfl | go_simp⟩) (by decide +kernel) hS ?_
        simp only [Act.put, List.setIfInBounds_toArray, List.set_cons_zero, List.set_cons_succ]
        refine tk 3 (some 17) (.bool false) rfl rfl (Or.inl ⟨rfl, fun wq hSq => by first | rfl | go_simp⟩) (by decide +kernel) hS ?_
        simp only [Act.put, List.setIfInBounds_toArray, List.set_cons_zero, List.set_cons_succ]
        refine tk 4 (some 18) (undef) rfl rfl (Or.inr ⟨rfl, rfl⟩) (by decide +kernel) hS ?_
        simp only [Act.put, List.setIfInBounds_toArray, List.set_cons_zero, List.set_cons_succ]
        refine tk 5 (some 19) (undef) rfl rfl (Or.inr ⟨rfl, rfl⟩) (by decide +kernel) hS ?_
        simp only [Act.put, List.setIfInBounds_toArray, List.set_cons_zero, List.set_cons_succ]
        refine tk 6 (some 20) (undef) rfl rfl (Or.inr ⟨rfl, rfl⟩) (by decide +kernel) hS ?_
        simp only [Act.put, List.setIfInBounds_toArray, List.set_cons_zero, List.set_cons_succ]
        refine tk 7 (some 21) (undef) rfl rfl (Or.inr ⟨rfl, rfl⟩) (by decide +kernel) hS ?_
        simp only [Act.put, List.setIfInBounds_toArray, List.set_cons_zero, List.set_cons_succ]
        refine tk 8 (some 22) (undef) rfl rfl (Or.inr ⟨rfl, rfl⟩) (by decide +kernel) hS ?_
        simp only [Act.put, List.setIfInBounds_toArray, List.set_cons_zero, List.set_cons_succ]
        refine tk 9 (some 23) (undef) rfl rfl (Or.inr ⟨rfl, rfl⟩) (by decide +kernel) hS ?_
        simp only [Act.put, List.setIfInBounds_toArray, List.set_cons_zero, List.set_cons_succ]
        refine tk 10 (some 24) (undef) rfl rfl (Or.inr ⟨rfl, rfl⟩) (by decide +kernel) hS ?_
        simp only [Act.put, List.setIfInBounds_toArray, List.set_cons_zero, List.set_cons_succ]
        refine tk 11 (some 25) (undef) rfl rfl (Or.inr ⟨rfl, rfl⟩) (by decide +kernel) hS ?_
        simp only [Act.put, List.setIfInBounds_toArray, List.set_cons_zero, List.set_cons_succ]
        refine tk 12 (some 26) (undef) rfl rfl (Or.inr ⟨rfl, rfl⟩) (by decide +kernel) hS ?_
        simp only [Act.put, List.setIfInBounds_toArray, List.set_cons_zero, List.set_cons_succ]
        refine tk 13 (some 27) (.bool false) rfl rfl (Or.inl ⟨rfl, fun wq hSq => by first | rfl | go_simp⟩) (by decide +kernel) hS ?_
        simp only [Act.put, List.setIfInBounds_toArray, List.set_cons_zero, List.set_cons_succ]
        refine wpAnyH_done (by decide +kernel) ?_ _
        refine plain_end ?_
        clear c0 c2
        have fD : Fr [] Y Y.drew := (Fr.refl _ _).drew
        have FX2 : Hid (TW G t l b1 wb lk vk qb yb pre lm sq O Y.drew) := FX.out.fr0 HC.out.2 fD
        have BX2 : Hid (Y.drew.heap[bx]? = some (.cells (Sr.cl ⟨xk, xvk, xvn, xn⟩).toArray 51 (0, 0)) ∧ bx ∉ O) := ⟨(fD.block _ (at_lt BX.out.1) (by simp)).trans BX.out.1, BX.out.2⟩
        have RX : Hid (Y.drew.rangeAt bx 0 (Sr.cl ⟨xk, xvk, xvn, xn⟩)) := range_block BX2.out.1
        clear fD FX BX hS
        generalize Y.drew = Y1 at *
        go_upto_region 7 with fail
        have HYY : Hid _ := HYh.out _ ⟨xk, xvk, xvn, xn⟩ _ _ FX2.out.g HX.out.2.2.2.2 HX.out.2.1
        obtain ⟨fn, tmps, assign, body, hyd, hRR⟩ := HYY.out
        have c3 : Y1.cell? ⟨yb, 0, none⟩ = some (.func (.yield l) #[] #[]) := at_cells FX2.out.y 0 rfl
        refine (wpIn_wide (n := 0)).1 ?_
        gi_wp2_with (refine in_load rfl 51 (.tmp 7) rfl bx 0 rfl (Sr.cl ⟨xk, xvk, xvn, xn⟩) _ RX.out Tryd.underlying51 rfl (by rw [info51]; rfl) ?_)
        refine ⟨rfl, hRR.mono ?_⟩
        rintro e W2 (⟨rfl, g4, hsz, hkp⟩ | ⟨cp, rfl, hxp⟩)
        · have HF : Hid (∃ O, TW G t l b1 wb lk vk qb yb (pre ++ [⟨xk, xvk, xvn, xn⟩]) lm sq O W2) := ⟨_, FX2.out.told g4 hsz hkp⟩
          clear hRR hyd g4 hsz hkp c3 HYY
          gi_wp2
          go_wp2
          go_roundw
          case rel => exact ⟨q + 1, hlt, by go_num, by rw [HX.out.2.2.1, HX.out.2.2.2.1, HT.out]; exact HF.out⟩
          case measure => simp [intOf]; omega
        · show ([] : List Deferred) = [] ∧ R (.panicked cp) W2
          rw [HR.out]
          exact ⟨rfl, .inr ⟨cp, rfl, hxp⟩⟩
    · obtain rfl : q = L.length := by omega
      have F2 := F.out
      rw [List.take_length] at F2
      have F3 : Hid _ := F2
      clear F F2 hq hlt
      go_wp2
      show R (.returned (.bool true)) wr
      rw [HR.out]
      exact .inl ⟨rfl, F3.out⟩
end Go.Proofs.YtkogfgbgmifcnaaDoor
