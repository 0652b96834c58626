/-
  What an operation takes is told one by one: Back; condition: the trace lies as told.
-/
import Derived.Test.YtkogfgbgmifcnaaDoorTeA
namespace Go.Proofs.YtkogfgbgmifcnaaDoor
open Go.RowKit Go.Shelf Go.Maps Go.ChangeShapes
set_option linter.unusedVariables false
set_option linter.unusedSimpArgs false
attribute [local go_sem] Oper.semAt_some store_func
set_option maxRecDepth 100000 in
set_option maxHeartbeats 16000000 in
theorem taken61b {w0 : World} {B : Nat} {t : Tr} (sp : TellSpec t) (hT : TrOk w0 B t) (hg : GoodT t.abs) (hnl : 0 ≤ t.links.length)
    (l bt ba : Nat) (G : List Sr → List Nat → World → Prop) (Wi : World) (hbt : Wi.heap[bt]? = some (.cells t.arr 33 (0, 0))) (hba : Wi.heap[ba]? = some (.cells #[.int .i64 (t.ops.length : Nat)] 3 (0, 0))) (g0 : G [] [bt, ba] Wi)
    (hK : ∀ pre O W, G pre O W → Fr [] w0 W) (hG : ∀ pre O O' W W', G pre O W → Fr O W W' → (∀ k ∈ O', k ∈ O ∨ W.heap.size ≤ k) → (∀ k ∈ O', k < W'.heap.size) → G pre O' W')
    (hY : ∀ pre x O W, G pre O W → (pre ++ [x]) <+: t.back ++ (walkP t.abs (MK.start t.abs) (-1 : Int)).1 → YieldAt Fence.wide 0 Tryd.prog l #[.agg x.cl.toArray] W fun e W' => e = .returned (.bool true) ∧ G (pre ++ [x]) O W' ∧ W.heap.size ≤ W'.heap.size ∧ ∀ k ∈ O, k < W.heap.size → W'.heap[k]? = W.heap[k]?) :
    Calls Tryd.prog 61 #[.func (.yield l) #[] #[], .pointer (some ⟨bt, 0, none⟩), .pointer (some ⟨ba, 0, none⟩)] Wi fun e W' => e = .returned (.tuple #[]) ∧ ∃ O', G (t.back ++ (walkP t.abs (MK.start t.abs) (-1 : Int)).1) O' W' := by
  have F1 : Fr [] Wi (Wi.alloc (.cells #[.func (.yield l) #[] #[]] 96)) := (Fr.refl _ _).alloc _
  have b3 := heap_alloc_new Wi (.cells #[.func (.yield l) #[] #[]] 96)
  have g1 : G [] [bt, ba, Wi.heap.size] (Wi.alloc (.cells #[.func (.yield l) #[] #[]] 96)) := hG _ _ _ _ _ g0 (F1.sub (by simp)) (fun k hk => by simp at hk ⊢; rcases hk with rfl | rfl | rfl <;> simp) (fun k hk => by have h1 := at_lt hbt; have h2 := at_lt hba; simp at hk ⊢; omega)
  have hbt1 := (F1.block _ (at_lt hbt) (by simp)).trans hbt
  have hba1 := (F1.block _ (at_lt hba) (by simp)).trans hba
  have SL1 := hT.back
  have c13 : (Wi.alloc (.cells #[.func (.yield l) #[] #[]] 96)).cell? ⟨bt, 13, none⟩ = some (.slice t.oa t.ops.length t.oc) := at_cells hbt1 13 t.at_ops
  have c16 : (Wi.alloc (.cells #[.func (.yield l) #[] #[]] 96)).cell? ⟨bt, 16, none⟩ = some (.slice t.ba t.back.length t.bc) := at_cells hbt1 16 t.at_back
  have ca : (Wi.alloc (.cells #[.func (.yield l) #[] #[]] 96)).cell? ⟨ba, 0, none⟩ = some (.int .i64 (t.ops.length : Nat)) := at_cells hba1 0 rfl
  have nO : (t.ops.length : Int) ≤ 140737488355328 := by have := hT.ops.fit; omega
  have nW : (t.back.length : Int) ≤ 140737488355328 := by have := SL1.fit; omega
  have HP : Hid (TellSpec t ∧ TrOk w0 B t ∧ GoodT t.abs ∧ (-1 ≤ (-1 : Int) ∧ (-1 : Int) < t.links.length) ∧ True ∧ SL w0 B 51 t.ba t.back.length t.bc 4 32 (flatS t.back)) := ⟨sp, hT, hg, ⟨by omega, by omega⟩, trivial, SL1⟩
  have HC : Hid ((∀ pre O W, G pre O W → Fr [] w0 W) ∧ (∀ pre O O' W W', G pre O W → Fr O W W' → (∀ k ∈ O', k ∈ O ∨ W.heap.size ≤ k) → (∀ k ∈ O', k < W'.heap.size) → G pre O' W')) := ⟨hK, hG⟩
  have HYh : Hid _ := hY
  have HG2 : Hid (G [] [bt, ba, Wi.heap.size] (Wi.alloc (.cells #[.func (.yield l) #[] #[]] 96)) ∧ (Wi.alloc (.cells #[.func (.yield l) #[] #[]] 96)).heap[Wi.heap.size]? = some (.cells #[.func (.yield l) #[] #[]] 96 (0, 0)) ∧ (Wi.alloc (.cells #[.func (.yield l) #[] #[]] 96)).heap[bt]? = some (.cells t.arr 33 (0, 0)) ∧ ba < (Wi.alloc (.cells #[.func (.yield l) #[] #[]] 96)).heap.size) := ⟨g1, b3, hbt1, at_lt hba1⟩
  clear sp hT hg hnl hK hG hY F1 b3 g1 hbt1 hba1 hbt hba g0 SL1
  refine calls_of_wpAt Tryd.func61 rfl ?_
  simp only [Tryd.ntmps61, List.size_toArray, List.length_cons, List.length_nil, Nat.reduceAdd, Nat.reduceSub, Array.replicate_succ, Array.replicate_zero, List.push_toArray, List.append_toArray, List.nil_append, List.cons_append]
  refine wpAt_seq_k ?_
  intro K hKs
  go_wp2
  generalize Wi.alloc (.cells #[.func (.yield l) #[] #[]] 96) = W1 at *
  generalize Wi.heap.size = b3 at *
  refine wpAt_seq_k ?_
  intro K hKs
  go_wp2
  refine wpAt_seq_k ?_
  intro K hKs
  go_wp2
  clear c13 c16 ca nO
  refine wpAt_seq_k ?_
  intro K hKs
  go_upto_region 5 with fail
  go_loopw [30] (fun i wr => ∃ q : Nat, q ≤ t.back.length ∧ i = .int .i64 q ∧ Hid (G (t.back.take q) [bt, ba, b3] wr ∧ wr.heap[b3]? = some (.cells #[.func (.yield l) #[] #[]] 96 (0, 0)) ∧ wr.heap[bt]? = some (.cells t.arr 33 (0, 0)) ∧ ba < wr.heap.size)) (fun i _ => t.back.length - (intOf i).toNat)
  case atStart => exact ⟨0, Nat.zero_le _, rfl, HG2.out⟩
  case round =>
    obtain ⟨q, hq, rfl, F⟩ := hrel
    clear HG2
    by_cases hlt : q < t.back.length
    · have hltI : (q : Int) < t.back.length := by omega
      obtain ⟨x, hx⟩ : ∃ x, t.back[q]? = some x := ⟨_, List.getElem?_eq_getElem hlt⟩
      obtain ⟨b4, o4, ead, r1, _⟩ := (HP.out.2.2.2.2.2.fr (HC.out.1 _ _ _ F.out.1) (Away.nil _ _)).elem (f := Sr.cl) (fun x _ => x.cl_len) (by omega) hx
      rw [ead]
      have R1 : Hid (wr.rangeAt b4 (o4 + q * 4) x.cl) := r1
      have bA := heap_alloc_new wr (.cells #[.int .i64 0, .int .i64 0, .int .i64 0, .int .i64 0] 51)
      have FA : Fr [] wr ((wr.alloc (.cells #[.int .i64 0, .int .i64 0, .int .i64 0, .int .i64 0] 51)).setRow wr.heap.size x.cl.toArray) := ((Fr.refl _ _).alloc _).setRow (.inr (Nat.le_refl _)) _
      have bB := setRow_heap (wr.alloc (.cells #[.int .i64 0, .int .i64 0, .int .i64 0, .int .i64 0] 51)) wr.heap.size _ x.cl.toArray _ _ bA
      have HA : Hid ((wr.alloc (.cells #[.int .i64 0, .int .i64 0, .int .i64 0, .int .i64 0] 51)).heap[wr.heap.size]? = some (.cells #[.int .i64 0, .int .i64 0, .int .i64 0, .int .i64 0] 51 (0, 0))) := bA
      have h3 := (FA.block _ (at_lt F.out.2.1) (by simp)).trans F.out.2.1
      have hbt := (FA.block _ (at_lt F.out.2.2.1) (by simp)).trans F.out.2.2.1
      have hba := Nat.lt_of_lt_of_le F.out.2.2.2 FA.size
      have g3 := HC.out.2 _ _ [bt, ba, b3] _ _ F.out.1 (FA.sub (by simp)) (fun k hk => .inl hk) (fun k hk => by have h1 := at_lt h3; have h2 := at_lt hbt; simp only [List.mem_cons, List.not_mem_nil, or_false] at hk; omega)
      have hpre : (t.back.take q ++ [x]) = t.back.take (q + 1) := by rw [List.take_add_one, hx]; rfl
      have hY2 := HYh.out _ x _ _ g3 (by rw [hpre]; exact (List.take_prefix _ _).trans (List.prefix_append _ _))
      rw [hpre] at hY2
      have HYY : Hid _ := hY2
      have RX : Hid (((wr.alloc (.cells #[.int .i64 0, .int .i64 0, .int .i64 0, .int .i64 0] 51)).setRow wr.heap.size x.cl.toArray).rangeAt wr.heap.size 0 x.cl) := range_block bB
      have HB3 : Hid (((wr.alloc (.cells #[.int .i64 0, .int .i64 0, .int .i64 0, .int .i64 0] 51)).setRow wr.heap.size x.cl.toArray).heap[b3]? = some (.cells #[.func (.yield l) #[] #[]] 96 (0, 0)) ∧ ((wr.alloc (.cells #[.int .i64 0, .int .i64 0, .int .i64 0, .int .i64 0] 51)).setRow wr.heap.size x.cl.toArray).heap[bt]? = some (.cells t.arr 33 (0, 0)) ∧ ba < ((wr.alloc (.cells #[.int .i64 0, .int .i64 0, .int .i64 0, .int .i64 0] 51)).setRow wr.heap.size x.cl.toArray).heap.size) := ⟨h3, hbt, hba⟩
      clear ead r1 bA FA bB h3 hbt hba g3 hpre hx F hY2
      go_upto_region 7 with (first
        | refine wpList_load_mid rfl 51 (.tmp 32) rfl b4 (o4 + q * 4) rfl x.cl _ R1.out Tryd.underlying51 rfl (by rw [info51]; rfl) ?_
        | refine wpList_store_row rfl 51 (.tmp 7) (.tmp 33) rfl wr.heap.size x.cl.toArray rfl rfl 51 _ HA.out (by rw [info51]; rfl) rfl (by simp [Sr.cl, Sr.il, Value.oneCell']) ?_)
      clear R1 HA
      generalize (wr.alloc (.cells #[.int .i64 0, .int .i64 0, .int .i64 0, .int .i64 0] 51)).setRow wr.heap.size x.cl.toArray = X at *
      generalize wr.heap.size = bx at *
      obtain ⟨fn, tmps, assign, body, hyd, hR⟩ := HYY.out
      have c3 : X.cell? ⟨b3, 0, none⟩ = some (.func (.yield l) #[] #[]) := at_cells HB3.out.1 0 rfl
      refine (wpIn_wide (n := 0)).1 ?_
      gi_wp2_with (refine in_load rfl 51 (.tmp 7) rfl bx 0 rfl x.cl _ RX.out Tryd.underlying51 rfl (by rw [info51]; rfl) ?_)
      refine ⟨rfl, hR.mono ?_⟩
      rintro e W2 ⟨rfl, g4, hsz, hkp⟩
      have HF : Hid (G (t.back.take (q + 1)) [bt, ba, b3] W2 ∧ W2.heap[b3]? = some (.cells #[.func (.yield l) #[] #[]] 96 (0, 0)) ∧ W2.heap[bt]? = some (.cells t.arr 33 (0, 0)) ∧ ba < W2.heap.size) := ⟨g4, (hkp _ (by simp) (at_lt HB3.out.1)).trans HB3.out.1, (hkp _ (by simp) (at_lt HB3.out.2.1)).trans HB3.out.2.1, Nat.lt_of_lt_of_le HB3.out.2.2 hsz⟩
      clear hR hyd g4 hsz hkp c3 RX HB3 HYY
      gi_wp2
      go_wp2
      go_roundw
      case rel => exact ⟨q + 1, hlt, by go_num, HF.out⟩
      case measure => simp [intOf]; omega
    · obtain rfl : q = t.back.length := by omega
      have F2 : Hid (G t.back [bt, ba, b3] wr ∧ wr.heap[b3]? = some (.cells #[.func (.yield l) #[] #[]] 96 (0, 0)) ∧ wr.heap[bt]? = some (.cells t.arr 33 (0, 0)) ∧ ba < wr.heap.size) := by
        have h := F.out
        rw [List.take_length] at h
        exact h
      clear F hq hlt
      go_wp2
      have C62 := walkOf62 (HP.out.2.1.fr0 (HC.out.1 _ _ _ F2.out.1))
      have RT : Hid (wr.rangeAt bt 0 t.cl) := range_block F2.out.2.2.1
      refine wpAt_seq_k ?_
      intro K2 hKs
      go_wp2_with (first
        | refine wpList_load_mid rfl 33 (.tmp 1) rfl bt 0 rfl t.cl _ RT.out Tryd.underlying33 rfl (by rw [t.cl_len]; exact info33) ?_
        | (go_at_call 62; refine C62.mono ?_; rintro e Wv ⟨wb, lk, vk, rfl, hwk, fv, h1, h2, h3⟩; have HV : Hid (WK Wv wb lk vk t (MK.start t.abs) ∧ Fr [] wr Wv ∧ wr.heap.size ≤ wb ∧ wr.heap.size ≤ lk ∧ wr.heap.size ≤ vk) := ⟨by have hh := hwk; rw [show (⟨List.replicate t.links.length false, List.replicate t.virts.length false⟩ : MK) = MK.start t.abs by simp [MK.start, Tr.abs]] at hh; exact hh, fv, h1, h2, h3⟩; clear hwk fv h1 h2 h3 C62)
        | (go_at_call 63; refine (from63 Wv wb (-1 : Int)).mono ?_; rintro e Z ⟨rfl, hz⟩))
      have q1 : Z.heap[Wv.heap.size]? = some (.cells #[.pointer (some ⟨wb, 0, none⟩)] 97 (0, 0)) := by rw [hz]; exact (((Fr.refl [] (Wv.alloc (.cells #[.pointer (some ⟨wb, 0, none⟩)] 97))).alloc _).block _ (by simp) (by simp)).trans (heap_alloc_new Wv _)
      have q2 : Z.heap[Wv.heap.size + 1]? = some (.cells #[.int .i64 (-1 : Int)] 3 (0, 0)) := by rw [hz]; exact blk2 Wv _ _
      have fZ : Fr [] wr Z := by rw [hz]; exact (HV.out.2.1.alloc _).alloc _
      have fZv : Fr [] Wv Z := by rw [hz]; exact ((Fr.refl _ _).alloc _).alloc _
      have hvs := HV.out.2.1.size
      rw [← hz]
      clear hz
      generalize Wv.heap.size = c1 at *
      refine wpAt_block ?_
      refine range_thr (gf := 78) (lb := #[.pointer (some ⟨c1, 0, none⟩), .pointer (some ⟨c1 + 1, 0, none⟩)]) Tryd.func61 rfl (fun _ _ => rfl) ?_
      intro rec HYr
      show CallsIn Fence.wide 0 Tryd.prog 78 #[.func (.yield (Z.heap.size + 1)) #[] #[], .pointer (some ⟨c1, 0, none⟩), .pointer (some ⟨c1 + 1, 0, none⟩)] _ _
      have HYi : Hid _ := HYr
      clear HYr
      have f5 : Fr [] Z ((Z.alloc (.deferred (some []))).alloc (.loop (rec .ready none))) := ((Fr.refl _ _).alloc _).alloc _
      have hL5 := blk2 Z (.deferred (some [])) (.loop (rec .ready none))
      have hD5 : ((Z.alloc (.deferred (some []))).alloc (.loop (rec .ready none))).heap[Z.heap.size]? = some (.deferred (some [])) := (Below.heap_alloc _ _ _ (by simp)).trans (heap_alloc_new Z _)
      generalize (Z.alloc (.deferred (some []))).alloc (.loop (rec .ready none)) = Z5 at *
      obtain ⟨d0, hd0⟩ : ∃ d0, d0 = Z.heap.size := ⟨_, rfl⟩
      rw [← hd0] at hL5 hD5 HYi ⊢
      have zl : ∀ {k : Nat} {o : Obj}, Z.heap[k]? = some o → k < d0 := fun h => by rw [hd0]; exact at_lt h
      have zk : ∀ {k : Nat} {o : Obj}, Z.heap[k]? = some o → Z5.heap[k]? = some o := fun h => (f5.block _ (at_lt h) (by simp)).trans h
      have l1 := zl ((fZv.block _ (at_lt HV.out.1.blk) (by simp)).trans HV.out.1.blk)
      have l2 := zl ((fZv.block _ (at_lt HV.out.1.lb) (by simp)).trans HV.out.1.lb)
      have l3 := zl ((fZv.block _ (at_lt HV.out.1.vb) (by simp)).trans HV.out.1.vb)
      have l4 := zl q1
      have l5 := zl q2
      have lb3 := zl ((fZ.block _ (at_lt F2.out.2.1) (by simp)).trans F2.out.2.1)
      have hb3 := zk ((fZ.block _ (at_lt F2.out.2.1) (by simp)).trans F2.out.2.1)
      have hb3r := at_lt F2.out.2.1
      have hwz := fZ.size
      have hlo := HV.out
      refine (callsIn_wide.2 (HP.out.1 B w0 (d0 + 1) c1 (c1 + 1) wb lk vk (MK.start t.abs) (-1 : Int) (fun pre O W => (∃ O2, G (t.back ++ pre) O2 W ∧ (∀ k ∈ O, k ∈ O2) ∧ d0 ∈ O2 ∧ d0 + 1 ∈ O2 ∧ b3 ∈ O2 ∧ ∀ k ∈ O2, k < W.heap.size) ∧ W.heap[d0]? = some (.deferred (some [])) ∧ W.heap[d0 + 1]? = some (.loop (rec .ready none)) ∧ W.heap[b3]? = some (.cells #[.func (.yield l) #[] #[]] 96 (0, 0)) ∧ ∀ k ∈ O, k ≠ d0 ∧ k ≠ d0 + 1 ∧ k ≠ b3) (fun _ _ => False) Z5 HP.out.2.1 HP.out.2.2.1 HP.out.2.2.2.1.1 HP.out.2.2.2.1.2 ((HV.out.1.fr0 fZv).fr0 f5) (zk q1) (zk q2) ?_ ?_ ?_ ?_)).mono ?_
      · have hex : ∀ k ∈ [wb, c1, c1 + 1, lk, vk, d0, d0 + 1, b3], k < Z5.heap.size := fun k hk => by have h1 := at_lt hL5; simp only [List.mem_cons, List.not_mem_nil, or_false] at hk; omega
        refine ⟨⟨[wb, c1, c1 + 1, lk, vk, d0, d0 + 1, b3], ?_, fun k hk => by simp at hk ⊢; omega, by simp, by simp, by simp, hex⟩, hD5, hL5, hb3, fun k hk => ?_⟩
        · rw [List.append_nil]
          refine HC.out.2 _ _ _ _ _ F2.out.1 ((fZ.trans f5).sub (by simp)) (fun k hk => ?_) hex
          simp at hk
          rcases hk with rfl | rfl | rfl | rfl | rfl | rfl | rfl | rfl
          · exact .inr hlo.2.2.1
          · exact .inr hvs
          · exact .inr (by omega)
          · exact .inr hlo.2.2.2.1
          · exact .inr hlo.2.2.2.2
          · exact .inr (by omega)
          · exact .inr (by omega)
          · exact .inl (by simp)
        · have h1 := hlo.2.2.1
          have h2 := hlo.2.2.2.1
          have h3 := hlo.2.2.2.2
          simp at hk
          rcases hk with rfl | rfl | rfl | rfl | rfl <;> exact ⟨by omega, by omega, by omega⟩
      · rintro pre O W ⟨⟨O2, g, _⟩, _⟩
        exact HC.out.1 _ _ _ g
      · rintro pre O O' W W' ⟨⟨O2, g, hsub, hs1, hs2, hs3, hex⟩, h1, h2, h3, hno⟩ f hO' hlt'
        have n1 : d0 ∉ O := fun hm => (hno _ hm).1 rfl
        have n2 : d0 + 1 ∉ O := fun hm => (hno _ hm).2.1 rfl
        have n3 : b3 ∉ O := fun hm => (hno _ hm).2.2 rfl
        have hex' : ∀ k ∈ O' ++ [d0, d0 + 1, b3], k < W'.heap.size := fun k hk => by
          have e1 := at_lt h1
          have e2 := at_lt h2
          have e4 := at_lt h3
          have e3 := f.size
          simp at hk
          rcases hk with hk | rfl | rfl | rfl
          · exact hlt' k hk
          · omega
          · omega
          · omega
        refine ⟨⟨O' ++ [d0, d0 + 1, b3], HC.out.2 _ _ _ _ _ g (f.sub (fun k hk => .inl (hsub k hk))) (fun k hk => ?_) hex', fun k hk => by simp [hk], by simp, by simp, by simp, hex'⟩, (f.block _ (at_lt h1) n1).trans h1, (f.block _ (at_lt h2) n2).trans h2, (f.block _ (at_lt h3) n3).trans h3, fun k hk => ?_⟩
        · simp at hk
          rcases hk with hk | rfl | rfl | rfl
          · exact (hO' k hk).imp (hsub k) id
          · exact .inl hs1
          · exact .inl hs2
          · exact .inl hs3
        rcases hO' k hk with h | h
        · exact hno k h
        · have := at_lt h1; have := at_lt h2; have := at_lt h3; exact ⟨by omega, by omega, by omega⟩
      · clear hL5 hD5 zl zk f5 q1 q2 l1 l2 l3 l4 l5 lb3 hb3 hwz hlo fZ fZv HV F2 hd0 hb3r hvs
        rintro pre x O W ⟨⟨O2, g, hsub, hs1, hs2, hs3, hex⟩, h1, h2, h3, hno⟩ hpre _
        have hpre2 : (t.back ++ pre) ++ [x] <+: t.back ++ (walkP t.abs (MK.start t.abs) (-1 : Int)).1 := by
          rw [List.append_assoc]
          exact (List.prefix_append_right_inj t.back).2 hpre
        refine HYi.out #[.agg x.cl.toArray] W _ rfl h2 ?_
        have bA := heap_alloc_new W (.cells #[.int .i64 0, .int .i64 0, .int .i64 0, .int .i64 0] 51)
        have HA : Hid ((W.alloc (.cells #[.int .i64 0, .int .i64 0, .int .i64 0, .int .i64 0] 51)).heap[W.heap.size]? = some (.cells #[.int .i64 0, .int .i64 0, .int .i64 0, .int .i64 0] 51 (0, 0))) := bA
        have fA : Fr [] W ((W.alloc (.cells #[.int .i64 0, .int .i64 0, .int .i64 0, .int .i64 0] 51)).setRow W.heap.size x.cl.toArray) := ((Fr.refl _ _).alloc _).setRow (.inr (Nat.le_refl _)) _
        have bB := setRow_heap (W.alloc (.cells #[.int .i64 0, .int .i64 0, .int .i64 0, .int .i64 0] 51)) W.heap.size _ x.cl.toArray _ _ bA
        have hlp : ((W.alloc (.cells #[.int .i64 0, .int .i64 0, .int .i64 0, .int .i64 0] 51)).setRow W.heap.size x.cl.toArray).heap[d0 + 1]? = some (.loop (rec .ready none)) := (fA.block _ (at_lt h2) (by simp)).trans h2
        have HLP : Hid (W.heap.size ≠ d0 + 1 ∧ d0 + 1 < W.heap.size ∧ b3 < W.heap.size ∧ b3 ≠ d0 + 1 ∧ d0 < W.heap.size) := ⟨by have := at_lt h2; omega, at_lt h2, at_lt h3, (fun e => by rw [e, h2] at h3; cases h3), at_lt h1⟩
        gi_wp2_with (refine in_store rfl 51 (.tmp 8) (.tmp 43) rfl W.heap.size x.cl.toArray rfl rfl 51 _ HA.out (by rw [info51]; rfl) rfl (by simp [Sr.cl, Sr.il, Value.oneCell']) ?_)
        refine ⟨(Array.getElem?_eq_some_iff.1 hlp).2, ?_⟩
        have fP := Fr.putObj (W := (W.alloc (.cells #[.int .i64 0, .int .i64 0, .int .i64 0, .int .i64 0] 51)).setRow W.heap.size x.cl.toArray) (l := d0 + 1) (.loop (rec .busy none))
        have hbz := World.putObj_heap_same (w := (W.alloc (.cells #[.int .i64 0, .int .i64 0, .int .i64 0, .int .i64 0] 51)).setRow W.heap.size x.cl.toArray) (r := d0 + 1) (o := .loop (rec .busy none)) (at_lt hlp)
        have FW : Fr [d0 + 1] W (((W.alloc (.cells #[.int .i64 0, .int .i64 0, .int .i64 0, .int .i64 0] 51)).setRow W.heap.size x.cl.toArray).putObj (d0 + 1) (.loop (rec .busy none))) := (fA.sub (by simp)).trans fP
        have bX : (((W.alloc (.cells #[.int .i64 0, .int .i64 0, .int .i64 0, .int .i64 0] 51)).setRow W.heap.size x.cl.toArray).putObj (d0 + 1) (.loop (rec .busy none))).heap[W.heap.size]? = some (.cells x.cl.toArray 51 (0, 0)) := (fP.block _ (at_lt bB) (by simpa using HLP.out.1)).trans bB
        generalize ((W.alloc (.cells #[.int .i64 0, .int .i64 0, .int .i64 0, .int .i64 0] 51)).setRow W.heap.size x.cl.toArray).putObj (d0 + 1) (.loop (rec .busy none)) = X at *
        have y1 := (FW.block _ HLP.out.2.2.2.2 (by simp)).trans h1
        have y3 := (FW.block _ HLP.out.2.2.1 (by simpa using HLP.out.2.2.2.1)).trans h3
        have c3 : X.cell? ⟨b3, 0, none⟩ = some (.func (.yield l) #[] #[]) := at_cells y3 0 rfl
        have RX : Hid (X.rangeAt W.heap.size 0 x.cl) := range_block bX
        have hsz := FW.size
        have gX := HC.out.2 _ _ O2 _ _ g (FW.sub (fun k hk => by simp at hk; subst hk; exact .inl hs2)) (fun k hk => .inl hk) (fun k hk => Nat.lt_of_lt_of_le (hex k hk) hsz)
        have hY2 := HYh.out _ x _ _ gX hpre2
        have HS : Hid ((∀ k ∈ O, k ∈ O2) ∧ d0 ∈ O2 ∧ d0 + 1 ∈ O2 ∧ b3 ∈ O2 ∧ (∀ k ∈ O2, k < W.heap.size) ∧ (∀ k ∈ O, k ≠ d0 ∧ k ≠ d0 + 1 ∧ k ≠ b3) ∧ W.heap[d0]? = some (.deferred (some [])) ∧ W.heap[d0 + 1]? = some (.loop (rec .ready none)) ∧ W.heap[b3]? = some (.cells #[.func (.yield l) #[] #[]] 96 (0, 0))) := ⟨hsub, hs1, hs2, hs3, hex, hno, h1, h2, h3⟩
        have HBZ : Hid (X.heap[d0 + 1]? = some (.loop (rec .busy none)) ∧ X.heap[d0]? = some (.deferred (some [])) ∧ X.heap[b3]? = some (.cells #[.func (.yield l) #[] #[]] 96 (0, 0)) ∧ Fr [d0 + 1] W X) := ⟨hbz, y1, y3, FW⟩
        clear bA HA fA bB hlp fP hbz bX y1 y3 FW g gX hsz hsub hs1 hs2 hs3 hex hno h1 h2 h3
        generalize hbx : W.heap.size = bx at *
        obtain ⟨fn, tmps, assign, body, hyd, hR⟩ := hY2
        gi_wp2_with (refine in_load rfl 51 (.tmp 8) rfl bx 0 rfl x.cl _ RX.out Tryd.underlying51 rfl (by rw [info51]; rfl) ?_)
        refine ⟨rfl, hR.mono ?_⟩
        rintro e W2 ⟨rfl, g4, hsz2, hkp⟩
        obtain ⟨hsub, hs1, hs2, hs3, hex, hno, h1, h2, h3⟩ := HS.out
        have z1 := (hkp _ hs2 (at_lt HBZ.out.1)).trans HBZ.out.1
        have z0 := (hkp _ hs1 (at_lt HBZ.out.2.1)).trans HBZ.out.2.1
        have z3 := (hkp _ hs3 (at_lt HBZ.out.2.2.1)).trans HBZ.out.2.2.1
        have HZ : Hid (W2.heap[d0 + 1]? = some (.loop (rec .busy none)) ∧ W2.heap[d0]? = some (.deferred (some [])) ∧ W2.heap[b3]? = some (.cells #[.func (.yield l) #[] #[]] 96 (0, 0)) ∧ G (t.back ++ pre ++ [x]) O2 W2 ∧ X.heap.size ≤ W2.heap.size ∧ ∀ k ∈ O2, k < X.heap.size → W2.heap[k]? = X.heap[k]?) := ⟨z1, z0, z3, g4, hsz2, hkp⟩
        clear z1 z0 z3 g4 hkp hsz2 hyd hR c3 RX hsub hs1 hs2 hs3 hex hno h1 h2 h3
        gi_wp2
        obtain ⟨hsub, hs1, hs2, hs3, hex, hno, h1, h2, h3⟩ := HS.out
        have fR := Fr.putObj (W := W2) (l := d0 + 1) (.loop (rec .ready none))
        obtain ⟨z1, z0, z3, g4, hsz2, hkp⟩ := HZ.out
        have hq : ∀ k ∈ O2, k < (W2.putObj (d0 + 1) (.loop (rec .ready none))).heap.size := fun k hk => by
          have h1 := hex k hk
          have h2 := HBZ.out.2.2.2.size
          have h3 := fR.size
          omega
        refine ⟨z1, rfl, ⟨⟨O2, ?_, hsub, hs1, hs2, hs3, hq⟩, (fR.block _ (at_lt z0) (by simp)).trans z0, World.putObj_heap_same (at_lt z1), (fR.block _ (at_lt z3) (by simpa using HLP.out.2.2.2.1)).trans z3, hno⟩, ?_, ?_⟩
        · rw [← List.append_assoc]
          exact HC.out.2 _ _ O2 _ _ g4 (fR.sub (fun k hk => by simp at hk; subst hk; exact .inl hs2)) (fun k hk => .inl hk) hq
        · have h2 := HBZ.out.2.2.2.size
          have h3 := fR.size
          omega
        · intro k hk hkw
          have n2 := (hno k hk).2.1
          have h2 := HBZ.out.2.2.2.size
          have e1 := fR.block k (by omega) (by simpa using n2)
          have e2 := hkp k (hsub k hk) (by omega)
          have e3 := HBZ.out.2.2.2.block k (by omega) (by simpa using n2)
          exact e1.trans (e2.trans e3)
      · rintro e W2 (⟨rfl, O', ⟨⟨O2, g, _, hs1, hs2, _, hex⟩, h1, h2, _⟩, _⟩ | ⟨_, _, hf⟩)
        · refine .inl ⟨_, rfl, h2, ?_⟩
          have hdd : (W2.putObj (d0 + 1) (.loop (rec .exhausted none))).heap[d0]? = some (.deferred (some [])) := (World.putObj_heap_other (by omega)).trans h1
          show LeavesInM Fence.wide 0 Tryd.prog Tryd.f61 _ _ [{ target := .collected d0, args := #[] }] .returning _
          refine ⟨by simp, .inl ⟨_, _, rfl, run_takeDeferred hdd, ?_⟩⟩
          have F9 : Fr [d0 + 1, d0] W2 ((W2.putObj (d0 + 1) (.loop (rec .exhausted none))).putObj d0 (.deferred none)) := ((Fr.putObj _).sub (by simp)).trans ((Fr.putObj _).sub (by simp))
          exact ⟨.tuple #[], by simp [results, Tryd.results61], rfl, O2, HC.out.2 _ _ _ _ _ g (F9.sub (fun k hk => by simp at hk; rcases hk with rfl | rfl; exact .inl hs2; exact .inl hs1)) (fun k hk => .inl hk) (fun k hk => Nat.lt_of_lt_of_le (hex k hk) F9.size)⟩
        · exact hf.elim
end Go.Proofs.YtkogfgbgmifcnaaDoor
