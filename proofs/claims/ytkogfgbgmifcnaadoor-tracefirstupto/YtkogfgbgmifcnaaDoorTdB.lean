/-
  What a link takes, told: links up, then Virts that wait; conditions: what lies in memory lies as told.
-/
import Derived.Test.YtkogfgbgmifcnaaDoorTdA
namespace Go.Proofs.YtkogfgbgmifcnaaDoor
open Go.RowKit Go.Shelf Go.Maps Go.ChangeShapes
set_option linter.unusedVariables false
set_option linter.unusedSimpArgs false
attribute [local go_sem] Oper.semAt_some store_func
/-- How many wait or aren't marked, read off memory. -/
def muW (qb vk : Nat) (w : World) : Nat := (match w.heap[qb]? with | some (Obj.cells c _ _) => (match (c[0]? : Option Value) with | some (Value.slice _ n _) => n | _ => 0) | _ => 0) + (match w.heap[vk]? with | some (Obj.cells c _ _) => (c.toList.filter (fun v : Value => match v with | .bool false => true | _ => false)).length | _ => 0)
theorem bools_count (L : List Bool) : ((bools L).toList.filter (fun v : Value => match v with | .bool false => true | _ => false)).length = L.count false := by
  induction L with
  | nil => rfl
  | cons b r ih =>
    simp only [bools] at ih ⊢
    cases b
    · simp at ih ⊢
      exact ih
    · simp at ih ⊢
      exact ih
theorem TW.mu {G : List Sr → List Nat → World → Prop} {t : Tr} {l b1 wb lk vk qb yb : Nat} {pre : List Sr} {lm : List Bool} {st : List Bool × List Nat} {O : List Nat} {W : World} (h : TW G t l b1 wb lk vk qb yb pre lm st O W) : muW qb vk W = st.2.length + st.1.count false := by
  obtain ⟨a, c, h1, _⟩ := h.row
  unfold muW
  rw [h1, h.wk.vb]
  simp only [bools_count]
  rfl
theorem walkP_pre {a : AT} {m : MK} {n : Int} {ys : List Sr} (h : ys <+: (chainP a.links (a.links.length + 1) m.lm (m.vm, []) [] n).2.2) : ys <+: (walkP a m n).1 := by
  unfold walkP
  exact h.trans (virtsP_pre _ _ _ _)
set_option maxRecDepth 100000 in
set_option maxHeartbeats 16000000 in
theorem tellSpec (t : Tr) : TellSpec t := by
  intro B w0 l b1 b2 wb lk vk m n G X Wi hT hg hn1 hn2 hwk hb1 hb2 g0 hK hG hY
  obtain ⟨R, hR⟩ : ∃ R : Ending → World → Prop, R = fun e W' => (e = .returned (.tuple #[]) ∧ ∃ O', G (walkP t.abs m n).1 O' W' ∧ WK W' wb lk vk t (walkP t.abs m n).2) ∨ (∃ c, e = .panicked c ∧ X c W') := ⟨_, rfl⟩
  rw [← hR]
  have HR : Hid (R = fun e W' => (e = .returned (.tuple #[]) ∧ ∃ O', G (walkP t.abs m n).1 O' W' ∧ WK W' wb lk vk t (walkP t.abs m n).2) ∨ (∃ c, e = .panicked c ∧ X c W')) := hR
  have nK : (t.links.length : Int) ≤ 140737488355328 := by have := hT.links.fit; omega
  have nV : (t.virts.length : Int) ≤ 140737488355328 := by have := hT.virts.fit; omega
  have HP : Hid (TrOk w0 B t ∧ GoodT t.abs) := ⟨hT, hg⟩
  have HC : Hid ((∀ pre O W, G pre O W → Fr [] w0 W) ∧ (∀ pre O O' W W', G pre O W → Fr O W W' → (∀ k ∈ O', k ∈ O ∨ W.heap.size ≤ k) → (∀ k ∈ O', k < W'.heap.size) → G pre O' W')) := ⟨hK, hG⟩
  have HYh : Hid _ := hY
  have F0 : Fr [] Wi ((Wi.alloc (.cells #[.func (.yield l) #[] #[]] 96)).alloc (.cells #[.slice none 0 0] 27)) := ((Fr.refl _ _).alloc _).alloc _
  have hyb : ((Wi.alloc (.cells #[.func (.yield l) #[] #[]] 96)).alloc (.cells #[.slice none 0 0] 27)).heap[Wi.heap.size]? = some (.cells #[.func (.yield l) #[] #[]] 96 (0, 0)) := (((Fr.refl [] (Wi.alloc (.cells #[.func (.yield l) #[] #[]] 96))).alloc _).block _ (by simp) (by simp)).trans (heap_alloc_new Wi _)
  have hqb := blk2 Wi (.cells #[.func (.yield l) #[] #[]] 96) (.cells #[.slice none 0 0] 27)
  have cb2 : ((Wi.alloc (.cells #[.func (.yield l) #[] #[]] 96)).alloc (.cells #[.slice none 0 0] 27)).cell? ⟨b2, 0, none⟩ = some (.int .i64 n) := at_cells ((F0.block _ (at_lt hb2) (by simp)).trans hb2) 0 rfl
  have l1 := at_lt hwk.blk
  have l2 := at_lt hwk.lb
  have l3 := at_lt hwk.vb
  have l4 := at_lt hb1
  have l5 := at_lt hb2
  have hex : ∀ k ∈ [Wi.heap.size, Wi.heap.size + 1, wb, b1, b2, lk, vk], k < ((Wi.alloc (.cells #[.func (.yield l) #[] #[]] 96)).alloc (.cells #[.slice none 0 0] 27)).heap.size := fun k hk => by
    have h1 := at_lt hqb
    simp only [List.mem_cons, List.not_mem_nil, or_false] at hk
    omega
  have HT0 : Hid (∃ O, TW G t l b1 wb lk vk (Wi.heap.size + 1) Wi.heap.size [] m.lm (m.vm, []) O ((Wi.alloc (.cells #[.func (.yield l) #[] #[]] 96)).alloc (.cells #[.slice none 0 0] 27))) := by
    refine ⟨[Wi.heap.size, Wi.heap.size + 1, wb, b1, b2, lk, vk], hG _ _ _ _ _ g0 (F0.sub (by simp)) (fun k hk => ?_) hex, by simp, hex, hwk.fr0 F0, hyb, (F0.block _ l4 (by simp)).trans hb1, ⟨none, 0, hqb, ⟨rfl, .inl ⟨rfl, rfl⟩⟩, fun k e => by cases e⟩, ?_⟩
    · simp only [List.mem_cons, List.not_mem_nil, or_false] at hk ⊢
      omega
    · have h1 := hwk.vl
      have h2 : m.vm.count false ≤ m.vm.length := List.count_le_length
      simp
      omega
  have HN : Hid (-1 ≤ n ∧ n < t.links.length ∧ m.lm.length = t.links.length ∧ m.vm.length = t.virts.length) := ⟨hn1, hn2, hwk.ll, hwk.vl⟩
  have e79 : ∀ args w, (callFunc 79 args).run Tryd.prog w = .ok (.enter 79 args) w := enters_of Tryd.func79 (by kernel_rfl) rfl
  clear hT hg hn1 hn2 hwk hb1 hb2 g0 hK hG hY hR F0 hyb hqb l1 l2 l3 l4 l5 hex
  go_enter Tryd.func78, Tryd.ntmps78
  go_upto_region 4 with fail
  generalize (Wi.alloc (.cells #[.func (.yield l) #[] #[]] 96)).alloc (.cells #[.slice none 0 0] 27) = W0 at *
  generalize Wi.heap.size + 1 = qb at *
  generalize Wi.heap.size = yb at *
  clear cb2
  go_loopw [6] (fun i wr => ∃ (nn : Int) (f : Nat) (lm : List Bool) (st : List Bool × List Nat) (ys : List Sr), i = .int .i64 nn ∧ Hid (nn + 2 ≤ f ∧ 1 ≤ f ∧ -1 ≤ nn ∧ nn < t.links.length ∧ lm.length = t.links.length ∧ chainP t.abs.links f lm st ys nn = chainP t.abs.links (t.abs.links.length + 1) m.lm (m.vm, []) [] n ∧ (∃ O, TW G t l b1 wb lk vk qb yb ys lm st O wr) ∧ st.1.length = t.virts.length ∧ ∀ v ∈ st.2, v < t.virts.length)) (fun i _ => (intOf i + 1).toNat)
  case atStart => exact ⟨n, t.abs.links.length + 1, m.lm, (m.vm, []), [], rfl, by have := HN.out.1; have := HN.out.2.1; simp [Tr.abs]; omega, by omega, HN.out.1, HN.out.2.1, HN.out.2.2.1, rfl, HT0.out, HN.out.2.2.2, by simp⟩
  case round =>
    obtain ⟨nn, f, lm, st, ys, rfl, F⟩ := hrel
    clear HT0
    by_cases h0 : 0 ≤ nn
    · obtain ⟨k, rfl⟩ : ∃ k : Nat, nn = k := ⟨nn.toNat, by omega⟩
      have hk : k < t.links.length := by have := F.out.2.2.2.1; omega
      have hkI : (k : Int) < t.links.length := by omega
      obtain ⟨bv, hbv⟩ : ∃ bv, lm[k]? = some bv := ⟨_, List.getElem?_eq_getElem (by have := F.out.2.2.2.2.1; omega)⟩
      obtain ⟨O, FT⟩ := F.out.2.2.2.2.2.2.1
      have cb1 : wr.cell? ⟨b1, 0, none⟩ = some (.pointer (some ⟨wb, 0, none⟩)) := at_cells FT.b 0 rfl
      have cl : wr.cell? ⟨wb, 17, none⟩ = some (.slice (some ⟨lk, 0, none⟩) t.links.length t.links.length) := at_cells FT.wk.blk 17 (t.wc_l lk vk)
      have cv : wr.cell? ⟨lk, k, none⟩ = some (.bool bv) := at_cells FT.wk.lb k (bools_at hbv)
      have fv : wr.frozen? ⟨lk, k, none⟩ = false := unfrozen FT.wk.lb
      have HFT : Hid _ := FT
      have hd : decide ((0 : Int) ≤ (k : Int)) = true := decide_eq_true h0
      clear FT
      cases bv
      case true =>
        have HEX : Hid (¬(0 ≤ (k : Int) ∧ lm[(k : Int).toNat]? = some false)) := fun h => by have := h.2; simp only [Int.toNat_natCast] at this; rw [hbv] at this; cases this
        obtain ⟨f', rfl⟩ : ∃ f', f = f' + 1 := ⟨f - 1, by have := F.out.2.1; omega⟩
        obtain ⟨vm, wt⟩ := st
        have HCE : Hid (chainP t.abs.links (t.abs.links.length + 1) m.lm (m.vm, []) [] n = (lm, (vm, wt), ys)) := by
          have h1 := F.out.2.2.2.2.2.1
          rw [chainP_end HEX.out] at h1
          exact h1.symm
        have HV0 : Hid ((∃ O, TW G t l b1 wb lk vk qb yb ys lm (vm, wt) O wr) ∧ vm.length = t.virts.length ∧ ∀ v ∈ wt, v < t.virts.length) := ⟨F.out.2.2.2.2.2.2.1, F.out.2.2.2.2.2.2.2.1, F.out.2.2.2.2.2.2.2.2⟩
        clear F HEX
        go_upto_region 8 with fail
        clear cb1 cl cv fv HFT hd
        go_loopw [7] (fun i wr => ∃ (f2 : Nat) (vm2 : List Bool) (wt2 : List Nat) (ys2 : List Sr), Hid (wt2.length + vm2.count false < f2 ∧ vm2.length = t.virts.length ∧ (∀ v ∈ wt2, v < t.virts.length) ∧ virtsP t.abs.virts f2 (vm2, wt2) ys2 = virtsP t.abs.virts (t.abs.virts.length + 1) (vm, wt) ys ∧ ∃ O, TW G t l b1 wb lk vk qb yb ys2 lm (vm2, wt2) O wr)) (fun _ w => muW qb vk w)
        case atStart =>
          obtain ⟨O, h1⟩ := HV0.out.1
          exact ⟨t.abs.virts.length + 1, vm, wt, ys, by have := h1.cnt; simp at this; simp [Tr.abs]; omega, HV0.out.2.1, HV0.out.2.2, rfl, HV0.out.1⟩
        case round =>
          obtain ⟨f2, vm2, wt2, ys2, F2⟩ := hrel
          clear HV0
          obtain ⟨f3, rfl⟩ : ∃ f3, f2 = f3 + 1 := ⟨f2 - 1, by have := F2.out.1; omega⟩
          obtain ⟨O, T2⟩ := F2.out.2.2.2.2
          rcases List.eq_nil_or_concat wt2 with rfl | ⟨w', v, rfl⟩
          · obtain ⟨a, c, hb, _⟩ := T2.row
            have ca := at_cells hb 0 rfl
            have HW : Hid (walkP t.abs m n = (ys2, ⟨lm, vm2⟩)) := by
              unfold Hid walkP
              rw [HCE.out]
              simp only
              rw [← F2.out.2.2.2.1, virtsP_end]
            have HE2 : Hid (G ys2 O wr ∧ WK wr wb lk vk t ⟨lm, vm2⟩) := ⟨T2.g, T2.wk⟩
            clear T2 hb
            simp only [List.length_nil] at ca
            go_wp2
            refine ⟨rfl, .tuple #[], by simp [results, Tryd.results78], ?_⟩
            rw [HR.out]
            exact .inl ⟨rfl, O, by rw [HW.out]; exact HE2.out.1, by rw [HW.out]; exact HE2.out.2⟩
          · simp only [List.concat_eq_append] at F2 T2
            obtain ⟨b, c, hq, hcv, hc, hpop⟩ := T2.pop HC.out.2
            have ca := at_cells hq 0 rfl
            have hvlt : v < t.virts.length := F2.out.2.2.1 v (by simp)
            have hvI : (v : Int) < t.virts.length := by omega
            have hwl : w'.length ≤ t.virts.length := by have := T2.cnt; simp at this; omega
            have hwI : (w'.length : Int) ≤ 140737488355328 := by omega
            have HPOP : Hid _ := hpop
            have HMU : Hid (muW qb vk wr = w'.length + 1 + vm2.count false) := by unfold Hid; rw [T2.mu]; simp
            have fq := unfrozen hq (i := 0)
            clear T2 hq hpop
            go_upto_region 12 with fail
            generalize wr.setCell ⟨qb, 0, none⟩ (.slice (some ⟨b, 0, none⟩) w'.length c) = Y at *
            obtain ⟨e, he⟩ : ∃ e, t.virts[v]? = some e := ⟨_, List.getElem?_eq_getElem hvlt⟩
            have hTY := HP.out.1.fr0 (HC.out.1 _ _ _ HPOP.out.g)
            have ok0 := HP.out.1.virtl e (List.mem_of_getElem? he)
            obtain ⟨b4, o4, e1, r1, _⟩ := hTY.virts.elem (f := El.cl) (fun x hx => El.cl_len (hTY.virtl x hx)) (by omega) he
            have hea : t.abs.virts[v]? = some e.abs := by simp [Tr.abs, he]
            obtain ⟨p, q, ea, ec, eL⟩ := e
            have hp := ok0.hp
            have hq := ok0.hq
            simp only at hp hq
            obtain ⟨p0, rfl⟩ : ∃ p0, p = [p0] := by
              match p, hp with
              | [x0], _ => exact ⟨x0, rfl⟩
            obtain rfl := List.length_eq_zero_iff.1 hq
            have hgo := virtsP_go (f := f3) (vm := vm2) (wt := w') (ys := ys2) hea
            have HG2 : Hid (virtsP t.abs.virts f3 (tellP (vm2, w') eL) (ys2 ++ eL) = virtsP t.abs.virts (t.abs.virts.length + 1) (vm, wt) ys) := hgo.symm.trans F2.out.2.2.2.1
            have hall : (ys2 ++ eL) <+: (walkP t.abs m n).1 := by
              unfold walkP
              rw [HCE.out]
              simp only
              rw [← HG2.out]
              exact virtsP_pre _ _ _ _
            have hme := List.mem_of_getElem? hea
            have CT := tell79 HP.out.1 ok0.sl (fun x hx => by have := HP.out.2.src x (.inr ⟨_, hme, hx⟩); simpa [Tr.abs] using this) HC.out.1 HC.out.2 (fun pre x O W g h hx => HYh.out pre x O W g h (.inr ⟨_, hme, hx⟩)) hall ⟨O, HPOP.out⟩
            simp only at CT
            have c15 : Y.cell? ⟨wb, 15, none⟩ = some (.slice (some ⟨b4, o4, none⟩) t.virts.length t.vc) := by
              have := at_cells HPOP.out.wk.blk 15 (t.wc_arr lk vk t.at_virts)
              rwa [e1] at this
            have cb1 : Y.cell? ⟨b1, 0, none⟩ = some (.pointer (some ⟨wb, 0, none⟩)) := at_cells HPOP.out.b 0 rfl
            have x1 : Y.cell? ⟨b4, o4 + v * 2 + 1, none⟩ = some (.slice ea eL.length ec) := r1 1 _ rfl
            have hvm := F2.out.2.1
            have hvw : ∀ x ∈ w', x < t.virts.length := fun x hx => F2.out.2.2.1 x (by simp [hx])
            have HV2 : Hid (vm2.length = t.virts.length ∧ (∀ x ∈ w', x < t.virts.length) ∧ w'.length + 1 + vm2.count false < f3 + 1) := ⟨hvm, hvw, by have := F2.out.1; simp at this; omega⟩
            clear hTY ok0 r1 hea hp hq hgo hall hme e1 he hvm hvw F2 ca fq hcv hc hwl hwI HPOP
            go_wp2_with (go_at_fn 79; refine CT.mono ?_; rintro e W2 (⟨rfl, O2, T2⟩ | ⟨cp, rfl, hxp⟩))
            · have HT3 : Hid (TW G t l b1 wb lk vk qb yb (ys2 ++ eL) lm (tellP (vm2, w') eL) O2 W2) := T2
              have hcn := tellP_cnt eL (vm2, w')
              have hln := (tellP_len eL (vm2, w')).trans HV2.out.1
              have hlw := tellP_lt eL (vm2, w') HV2.out.1 HV2.out.2.1
              have HCN : Hid ((tellP (vm2, w') eL).2.length + (tellP (vm2, w') eL).1.count false = w'.length + vm2.count false ∧ (tellP (vm2, w') eL).1.length = t.virts.length ∧ ∀ x ∈ (tellP (vm2, w') eL).2, x < t.virts.length) := ⟨hcn, hln, hlw⟩
              clear T2 hcn hln hlw CT c15 cb1 x1
              go_roundw
              case rel => exact ⟨f3, (tellP (vm2, w') eL).1, (tellP (vm2, w') eL).2, ys2 ++ eL, by have := HCN.out.1; have := HV2.out.2.2; omega, HCN.out.2.1, HCN.out.2.2, HG2.out, ⟨O2, HT3.out⟩⟩
              case measure =>
                have h1 := HT3.out.mu
                have h2 := HMU.out
                have h3 := HCN.out.1
                omega
            · show ([] : List Deferred) = [] ∧ R (.panicked cp) W2
              rw [HR.out]
              exact ⟨rfl, .inr ⟨cp, rfl, hxp⟩⟩
      case false =>
        go_upto_region 7 with fail
        have HT2 : Hid (TW G t l b1 wb lk vk qb yb ys (lm.set k true) st O (wr.setCell ⟨lk, k, none⟩ (.bool true))) := HFT.out.link HC.out.2 k
        clear cb1 cl cv fv HFT
        generalize wr.setCell ⟨lk, k, none⟩ (.bool true) = Y at *
        obtain ⟨e, he⟩ : ∃ e, t.links[k]? = some e := ⟨_, List.getElem?_eq_getElem hk⟩
        have hTY := HP.out.1.fr0 (HC.out.1 _ _ _ HT2.out.g)
        have ok0 := HP.out.1.linkl e (List.mem_of_getElem? he)
        obtain ⟨b, o, e1, r1, _⟩ := hTY.links.elem (f := El.cl) (fun x hx => El.cl_len (hTY.linkl x hx)) (by omega) he
        have hea : t.abs.links[k]? = some e.abs := by simp [Tr.abs, he]
        obtain ⟨p, q, ea, ec, eL⟩ := e
        have hp := ok0.hp
        have hq := ok0.hq
        simp only at hp hq
        obtain ⟨p0, p1, p2, p3, rfl⟩ : ∃ p0 p1 p2 p3, p = [p0, p1, p2, p3] := by
          match p, hp with
          | [x0, x1, x2, x3], _ => exact ⟨x0, x1, x2, x3, rfl⟩
        obtain rfl := List.length_eq_zero_iff.1 hq
        obtain ⟨f', rfl⟩ : ∃ f', f = f' + 1 := ⟨f - 1, by have := F.out.2.1; omega⟩
        have hup := HP.out.2.up k _ hea
        simp only [El.abs, List.headD_cons] at hup
        have hgo := chainP_go (f := f') (st := st) (ys := ys) hbv hea
        have HG2 : Hid (chainP t.abs.links f' (lm.set k true) (tellP st eL) (ys ++ eL) p0 = chainP t.abs.links (t.abs.links.length + 1) m.lm (m.vm, []) [] n) := hgo.symm.trans F.out.2.2.2.2.2.1
        have hall : (ys ++ eL) <+: (walkP t.abs m n).1 := walkP_pre (by rw [← HG2.out]; exact chainP_pre _ _ _ _ _ _)
        have hme := List.mem_of_getElem? hea
        have CT := tell79 HP.out.1 ok0.sl (fun x hx => by have := HP.out.2.src x (.inl ⟨_, hme, hx⟩); simpa [Tr.abs] using this) HC.out.1 HC.out.2 (fun pre x O W g h hx => HYh.out pre x O W g h (.inl ⟨_, hme, hx⟩)) hall ⟨O, HT2.out⟩
        simp only at CT
        have c14 : Y.cell? ⟨wb, 14, none⟩ = some (.slice (some ⟨b, o, none⟩) t.links.length t.lc) := by
          have := at_cells HT2.out.wk.blk 14 (t.wc_arr lk vk t.at_links)
          rwa [e1] at this
        have cb1 : Y.cell? ⟨b1, 0, none⟩ = some (.pointer (some ⟨wb, 0, none⟩)) := at_cells HT2.out.b 0 rfl
        have x4 : Y.cell? ⟨b, o + k * 5 + 4, none⟩ = some (.slice ea eL.length ec) := r1 4 _ rfl
        have HUP : Hid (-1 ≤ p0 ∧ p0 < (k : Int)) := hup
        have HE : Hid (t.links[k]? = some ⟨[p0, p1, p2, p3], [], ea, ec, eL⟩ ∧ t.la = some ⟨b, o, none⟩) := ⟨he, e1⟩
        clear hTY ok0 r1 hea hp hq hup hgo hall hme e1 he hbv HT2 hd h0
        go_upto_region 5 with (go_at_fn 79; refine CT.mono ?_; rintro e W2 (⟨rfl, O2, T2⟩ | ⟨cp, rfl, hxp⟩))
        · have HT3 : Hid (TW G t l b1 wb lk vk qb yb (ys ++ eL) (lm.set k true) (tellP st eL) O2 W2) := T2
          clear T2 CT c14 cb1 x4
          have hTW2 := HP.out.1.fr0 (HC.out.1 _ _ _ HT3.out.g)
          obtain ⟨b', o', e1', r1', _⟩ := hTW2.links.elem (f := El.cl) (fun x hx => El.cl_len (hTW2.linkl x hx)) (by omega) HE.out.1
          rw [HE.out.2] at e1'
          cases e1'
          have c14 : W2.cell? ⟨wb, 14, none⟩ = some (.slice (some ⟨b, o, none⟩) t.links.length t.lc) := by
            have := at_cells HT3.out.wk.blk 14 (t.wc_arr lk vk t.at_links)
            rwa [HE.out.2] at this
          have cb1 : W2.cell? ⟨b1, 0, none⟩ = some (.pointer (some ⟨wb, 0, none⟩)) := at_cells HT3.out.b 0 rfl
          have x0 : W2.cell? ⟨b, o + k * 5, none⟩ = some (.int .i64 p0) := r1' 0 _ rfl
          clear hTW2 r1'
          go_wp2
          go_roundw
          case rel => exact ⟨p0, f', lm.set k true, tellP st eL, ys ++ eL, rfl, by have := F.out.1; have := HUP.out.2; omega, by have := F.out.1; omega, HUP.out.1, by have := HUP.out.2; omega, by have := F.out.2.2.2.2.1; simpa using this, HG2.out, ⟨O2, HT3.out⟩, (tellP_len eL st).trans F.out.2.2.2.2.2.2.2.1, tellP_lt eL st F.out.2.2.2.2.2.2.2.1 F.out.2.2.2.2.2.2.2.2⟩
          case measure => have := HUP.out.2; have := HUP.out.1; simp [intOf]; omega
        · show ([] : List Deferred) = [] ∧ R (.panicked cp) W2
          rw [HR.out]
          exact ⟨rfl, .inr ⟨cp, rfl, hxp⟩⟩
    · have HEX : Hid (¬(0 ≤ nn ∧ lm[nn.toNat]? = some false)) := fun h => h0 h.1
      have hd : decide ((0 : Int) ≤ nn) = false := decide_eq_false h0
      obtain ⟨f', rfl⟩ : ∃ f', f = f' + 1 := ⟨f - 1, by have := F.out.2.1; omega⟩
      obtain ⟨vm, wt⟩ := st
      have HCE : Hid (chainP t.abs.links (t.abs.links.length + 1) m.lm (m.vm, []) [] n = (lm, (vm, wt), ys)) := by
        have h1 := F.out.2.2.2.2.2.1
        rw [chainP_end HEX.out] at h1
        exact h1.symm
      have HV0 : Hid ((∃ O, TW G t l b1 wb lk vk qb yb ys lm (vm, wt) O wr) ∧ vm.length = t.virts.length ∧ ∀ v ∈ wt, v < t.virts.length) := ⟨F.out.2.2.2.2.2.2.1, F.out.2.2.2.2.2.2.2.1, F.out.2.2.2.2.2.2.2.2⟩
      clear F HEX
      go_upto_region 8 with fail

      go_loopw [7] (fun i wr => ∃ (f2 : Nat) (vm2 : List Bool) (wt2 : List Nat) (ys2 : List Sr), Hid (wt2.length + vm2.count false < f2 ∧ vm2.length = t.virts.length ∧ (∀ v ∈ wt2, v < t.virts.length) ∧ virtsP t.abs.virts f2 (vm2, wt2) ys2 = virtsP t.abs.virts (t.abs.virts.length + 1) (vm, wt) ys ∧ ∃ O, TW G t l b1 wb lk vk qb yb ys2 lm (vm2, wt2) O wr)) (fun _ w => muW qb vk w)
      case atStart =>
        obtain ⟨O, h1⟩ := HV0.out.1
        exact ⟨t.abs.virts.length + 1, vm, wt, ys, by have := h1.cnt; simp at this; simp [Tr.abs]; omega, HV0.out.2.1, HV0.out.2.2, rfl, HV0.out.1⟩
      case round =>
        obtain ⟨f2, vm2, wt2, ys2, F2⟩ := hrel
        clear HV0
        obtain ⟨f3, rfl⟩ : ∃ f3, f2 = f3 + 1 := ⟨f2 - 1, by have := F2.out.1; omega⟩
        obtain ⟨O, T2⟩ := F2.out.2.2.2.2
        rcases List.eq_nil_or_concat wt2 with rfl | ⟨w', v, rfl⟩
        · obtain ⟨a, c, hb, _⟩ := T2.row
          have ca := at_cells hb 0 rfl
          have HW : Hid (walkP t.abs m n = (ys2, ⟨lm, vm2⟩)) := by
            unfold Hid walkP
            rw [HCE.out]
            simp only
            rw [← F2.out.2.2.2.1, virtsP_end]
          have HE2 : Hid (G ys2 O wr ∧ WK wr wb lk vk t ⟨lm, vm2⟩) := ⟨T2.g, T2.wk⟩
          clear T2 hb
          simp only [List.length_nil] at ca
          go_wp2
          refine ⟨rfl, .tuple #[], by simp [results, Tryd.results78], ?_⟩
          rw [HR.out]
          exact .inl ⟨rfl, O, by rw [HW.out]; exact HE2.out.1, by rw [HW.out]; exact HE2.out.2⟩
        · simp only [List.concat_eq_append] at F2 T2
          obtain ⟨b, c, hq, hcv, hc, hpop⟩ := T2.pop HC.out.2
          have ca := at_cells hq 0 rfl
          have hvlt : v < t.virts.length := F2.out.2.2.1 v (by simp)
          have hvI : (v : Int) < t.virts.length := by omega
          have hwl : w'.length ≤ t.virts.length := by have := T2.cnt; simp at this; omega
          have hwI : (w'.length : Int) ≤ 140737488355328 := by omega
          have HPOP : Hid _ := hpop
          have HMU : Hid (muW qb vk wr = w'.length + 1 + vm2.count false) := by unfold Hid; rw [T2.mu]; simp
          have fq := unfrozen hq (i := 0)
          clear T2 hq hpop
          go_upto_region 12 with fail
          generalize wr.setCell ⟨qb, 0, none⟩ (.slice (some ⟨b, 0, none⟩) w'.length c) = Y at *
          obtain ⟨e, he⟩ : ∃ e, t.virts[v]? = some e := ⟨_, List.getElem?_eq_getElem hvlt⟩
          have hTY := HP.out.1.fr0 (HC.out.1 _ _ _ HPOP.out.g)
          have ok0 := HP.out.1.virtl e (List.mem_of_getElem? he)
          obtain ⟨b4, o4, e1, r1, _⟩ := hTY.virts.elem (f := El.cl) (fun x hx => El.cl_len (hTY.virtl x hx)) (by omega) he
          have hea : t.abs.virts[v]? = some e.abs := by simp [Tr.abs, he]
          obtain ⟨p, q, ea, ec, eL⟩ := e
          have hp := ok0.hp
          have hq := ok0.hq
          simp only at hp hq
          obtain ⟨p0, rfl⟩ : ∃ p0, p = [p0] := by
            match p, hp with
            | [x0], _ => exact ⟨x0, rfl⟩
          obtain rfl := List.length_eq_zero_iff.1 hq
          have hgo := virtsP_go (f := f3) (vm := vm2) (wt := w') (ys := ys2) hea
          have HG2 : Hid (virtsP t.abs.virts f3 (tellP (vm2, w') eL) (ys2 ++ eL) = virtsP t.abs.virts (t.abs.virts.length + 1) (vm, wt) ys) := hgo.symm.trans F2.out.2.2.2.1
          have hall : (ys2 ++ eL) <+: (walkP t.abs m n).1 := by
            unfold walkP
            rw [HCE.out]
            simp only
            rw [← HG2.out]
            exact virtsP_pre _ _ _ _
          have hme := List.mem_of_getElem? hea
          have CT := tell79 HP.out.1 ok0.sl (fun x hx => by have := HP.out.2.src x (.inr ⟨_, hme, hx⟩); simpa [Tr.abs] using this) HC.out.1 HC.out.2 (fun pre x O W g h hx => HYh.out pre x O W g h (.inr ⟨_, hme, hx⟩)) hall ⟨O, HPOP.out⟩
          simp only at CT
          have c15 : Y.cell? ⟨wb, 15, none⟩ = some (.slice (some ⟨b4, o4, none⟩) t.virts.length t.vc) := by
            have := at_cells HPOP.out.wk.blk 15 (t.wc_arr lk vk t.at_virts)
            rwa [e1] at this
          have cb1 : Y.cell? ⟨b1, 0, none⟩ = some (.pointer (some ⟨wb, 0, none⟩)) := at_cells HPOP.out.b 0 rfl
          have x1 : Y.cell? ⟨b4, o4 + v * 2 + 1, none⟩ = some (.slice ea eL.length ec) := r1 1 _ rfl
          have hvm := F2.out.2.1
          have hvw : ∀ x ∈ w', x < t.virts.length := fun x hx => F2.out.2.2.1 x (by simp [hx])
          have HV2 : Hid (vm2.length = t.virts.length ∧ (∀ x ∈ w', x < t.virts.length) ∧ w'.length + 1 + vm2.count false < f3 + 1) := ⟨hvm, hvw, by have := F2.out.1; simp at this; omega⟩
          clear hTY ok0 r1 hea hp hq hgo hall hme e1 he hvm hvw F2 ca fq hcv hc hwl hwI HPOP
          go_wp2_with (go_at_fn 79; refine CT.mono ?_; rintro e W2 (⟨rfl, O2, T2⟩ | ⟨cp, rfl, hxp⟩))
          · have HT3 : Hid (TW G t l b1 wb lk vk qb yb (ys2 ++ eL) lm (tellP (vm2, w') eL) O2 W2) := T2
            have hcn := tellP_cnt eL (vm2, w')
            have hln := (tellP_len eL (vm2, w')).trans HV2.out.1
            have hlw := tellP_lt eL (vm2, w') HV2.out.1 HV2.out.2.1
            have HCN : Hid ((tellP (vm2, w') eL).2.length + (tellP (vm2, w') eL).1.count false = w'.length + vm2.count false ∧ (tellP (vm2, w') eL).1.length = t.virts.length ∧ ∀ x ∈ (tellP (vm2, w') eL).2, x < t.virts.length) := ⟨hcn, hln, hlw⟩
            clear T2 hcn hln hlw CT c15 cb1 x1
            go_roundw
            case rel => exact ⟨f3, (tellP (vm2, w') eL).1, (tellP (vm2, w') eL).2, ys2 ++ eL, by have := HCN.out.1; have := HV2.out.2.2; omega, HCN.out.2.1, HCN.out.2.2, HG2.out, ⟨O2, HT3.out⟩⟩
            case measure =>
              have h1 := HT3.out.mu
              have h2 := HMU.out
              have h3 := HCN.out.1
              omega
          · show ([] : List Deferred) = [] ∧ R (.panicked cp) W2
            rw [HR.out]
            exact ⟨rfl, .inr ⟨cp, rfl, hxp⟩⟩
end Go.Proofs.YtkogfgbgmifcnaaDoor
