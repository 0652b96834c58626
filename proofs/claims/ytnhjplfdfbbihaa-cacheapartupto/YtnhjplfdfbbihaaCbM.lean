/-
  A trace was left at an operation: it is counted; it leads on to another one; condition: the cache lies as told.
-/
import Derived.Test.YtnhjplfdfbbihaaCbL
namespace Go.Proofs.Ytnhjplfdfbbihaa
open Go.RowKit Go.Shelf Go.Maps Go.ChangeShapes
set_option linter.unusedVariables false
set_option linter.unusedSimpArgs false
theorem CP.more {w : World} {B c : Nat} {pa : Option Addr} {pcap hb : Nat} {ov : Value} {fb lb lim : Nat} {pk : List Int} {last top n m : Nat} {rs : List Rt} {ms : List Mb} {F L : Int → Int → Option Int} (h : CP w B c pa pcap hb ov fb lb lim pk last top n rs ms F L) (hm : n ≤ m) : CP w B c pa pcap hb ov fb lb lim pk last top m rs ms F L :=
  ⟨h.blk, h.pick, h.held.more hm, h.ord, h.fails.more hm, h.links.more hm, h.trs, h.ne1, h.ne2, h.ne3, h.cB, h.hB, h.fB, h.lB⟩
theorem CA.more {w : World} {B c n m : Nat} {rs : List Rt} {S : Bk} (h : CA w B c n rs S) (hm : n ≤ m) : CA w B c m rs S := by
  obtain ⟨pa, pcap, hb, ov, fb, lb, hp⟩ := h.ex
  exact ⟨⟨_, _, _, _, _, _, hp.more hm⟩, h.abs⟩
set_option maxRecDepth 100000 in
set_option maxHeartbeats 2000000 in
theorem link_any {w : World} {B c n : Nat} {rs : List Rt} {S : Bk} (h : CA w B c n rs S) (ho : Ok S n) (hn : n ≤ 100000000000000) {i p t : Int} (hi : W64 i) (hp : W64 p) (ht : W64 t) :
    Calls Try.prog 20 #[.pointer (some ⟨c, 0, none⟩), .int .i64 i, .int .i64 p, .int .i64 t] w fun e w' => e = .returned (.int .i64 (linkR S i p t)) ∧ CA w' B c (n + 1) rs (linkB S i p t) ∧ Gm B pP true w w' := by
  have C : ∀ j w', Fr [] w w' → Calls Try.prog 35 #[.pointer (some ⟨c, 0, none⟩), .int .i64 j] w' fun e w2 => e = .returned (.bool (heldB S j)) ∧ Fr [] w' w2 := fun j w' f => holds_any (h.fr0 f) ho j
  have F0 : Fr [] w w := Fr.refl _ _
  have HC : Hid (∀ w', Fr [] w w' → CA w' B c n rs S) := fun w' f => h.fr0 f
  have h1 : ∀ w', Fr [] w w' → heldB S i = false ∨ heldB S t = false ∨ p < 0 → CA w' B c (n + 1) rs (linkB S i p t) := fun w' f hh => by
    have e : linkB S i p t = S := by
      unfold linkB
      rw [if_neg]
      rintro hx
      simp only [Bool.and_eq_true, decide_eq_true_eq] at hx
      rcases hh with hh | hh | hh
      · rw [hh] at hx; exact absurd hx.1.1 (by simp)
      · rw [hh] at hx; exact absurd hx.1.2 (by simp)
      · omega
    rw [e]
    exact (h.fr0 f).more (by omega)
  have HN : Hid (∀ w', Fr [] w w' → heldB S i = false ∨ heldB S t = false ∨ p < 0 → CA w' B c (n + 1) rs (linkB S i p t)) := h1
  have HO : Hid (Ok S n) := ho
  clear h h1 ho
  cases e1 : heldB S i with
  | false =>
    have HR : Hid (linkR S i p t = 3) := by show linkR S i p t = 3; unfold linkR; simp [e1]
    have HH : Hid (heldB S i = false) := e1
    have Ci := C i; rw [e1] at Ci
    clear C e1
    go_enter Try.func20, Try.ntmps20
    go_wp2_with (go_at_call 35; refine (Ci _ (by assumption)).mono ?_; rintro e w1 ⟨rfl, f1⟩)
    go_ret
    exact ⟨by rw [HR.out]; rfl, HN.out _ f1 (.inl HH.out), Gm.ofFr0 f1⟩
  | true =>
    have Ci := C i; rw [e1] at Ci
    cases e2 : heldB S t with
    | false =>
      have HR : Hid (linkR S i p t = 3) := by show linkR S i p t = 3; unfold linkR; simp [e2]
      have HH : Hid (heldB S t = false) := e2
      have Ct := C t; rw [e2] at Ct
      clear C e1 e2
      go_enter Try.func20, Try.ntmps20
      go_wp2_with (first
        | (go_at_call 35; refine (Ci _ (by assumption)).mono ?_; rintro e w1 ⟨rfl, f1⟩; clear Ci)
        | (go_at_call 35; refine (Ct _ (by assumption)).mono ?_; rintro e w2 ⟨rfl, f2⟩; clear Ct))
      go_ret
      exact ⟨by rw [HR.out]; rfl, HN.out _ (f1.trans f2) (.inr (.inl HH.out)), Gm.ofFr0 (f1.trans f2)⟩
    | true =>
      have Ct := C t; rw [e2] at Ct
      by_cases hneg : p < 0
      · have HR : Hid (linkR S i p t = 1) := by show linkR S i p t = 1; unfold linkR; simp [e1, e2, hneg]
        clear C e1 e2
        go_enter Try.func20, Try.ntmps20
        go_wp2_with (first
          | (go_at_call 35; refine (Ci _ (by assumption)).mono ?_; rintro e w1 ⟨rfl, f1⟩; clear Ci)
          | (go_at_call 35; refine (Ct _ (by assumption)).mono ?_; rintro e w2 ⟨rfl, f2⟩; clear Ct))
        go_ret
        exact ⟨by rw [HR.out]; rfl, HN.out _ (f1.trans f2) (.inr (.inr (by omega))), Gm.ofFr0 (f1.trans f2)⟩
      · have HR : Hid (linkR S i p t = 0 ∧ linkB S i p t = { S with notes := updN S.notes i p (linkU t) } ∧ t ≠ 0) := by
          refine ⟨?_, ?_, held_ne HO.out e2⟩
          · unfold linkR; simp [e1, e2, hneg]
          · unfold linkB; rw [if_pos]; simp only [e1, e2, Bool.and_self, Bool.true_and, decide_eq_true_eq]; omega
        have HW : Hid (W64 i ∧ W64 p ∧ W64 t ∧ n ≤ 100000000000000) := ⟨hi, hp, ht, hn⟩
        clear C e1 e2 hi hp ht hn
        go_enter Try.func20, Try.ntmps20
        go_upto_region 3 with (first
          | (go_at_call 35; refine (Ci _ (by assumption)).mono ?_; rintro e w1 ⟨rfl, f1⟩; clear Ci)
          | (go_at_call 35; refine (Ct _ (by assumption)).mono ?_; rintro e w2 ⟨rfl, f2⟩; clear Ct))
        have hc2 := HC.out _ (f1.trans f2)
        have habs := hc2.abs
        obtain ⟨pa, pcap, hb, ov, fb, lb, hp2⟩ := hc2.ex
        have k5 : w2.cell? ⟨c, 5, none⟩ = some (.map (some lb)) := at_cells hp2.blk 5 rfl
        obtain ⟨w3, hr, hsm, f3, _⟩ := hp2.links.store (by have := HW.out.2.2.2; omega) HW.out.1 HW.out.2.1 HW.out.2.2.1
        rw [← links_upd _ HR.out.2.2] at hsm
        have hp3 := hp2.setLinks f3 (m := n + 1) (by omega) hsm
        rw [← fails_updL S.notes t i p] at hp3
        have HP : Hid (CA w3 B c (n + 1) rs (linkB S i p t) ∧ Gm B pP true w w3) := by
          refine ⟨?_, (Gm.ofFr0 (f1.trans f2)).trans (hp2.gmLinks f3)⟩
          rw [HR.out.2.1]
          exact ⟨⟨_, _, _, _, _, _, hp3⟩, habs⟩
        unfold pc at hr
        clear hp3 hp2 hsm f3 hc2 habs f1 f2 F0 HC HN HO
        go_wp2
        go_ret
        exact ⟨by rw [HR.out.1]; rfl, HP.out.1, HP.out.2⟩
set_option maxRecDepth 100000 in
set_option maxHeartbeats 4000000 in
theorem fail_any {w : World} {B c n : Nat} {rs : List Rt} {S : Bk} (h : CA w B c n rs S) (ho : Ok S n) (hn : n ≤ 100000000000000) {i p : Int} (hi : W64 i) (hp : W64 p) :
    Calls Try.prog 19 #[.pointer (some ⟨c, 0, none⟩), .int .i64 i, .int .i64 p] w fun e w' => e = .returned (.int .i64 (failR S i p)) ∧ CA w' B c (n + 1) rs (failB S i p) ∧ Gm B pP true w w' := by
  have C := holds_any h ho i
  cases e1 : heldB S i with
  | false =>
    rw [e1] at C
    have HR : Hid (failR S i p = 0 ∧ failB S i p = S) := by refine ⟨?_, ?_⟩ <;> simp [failR, failB, e1]
    have HC : Hid (CA w B c n rs S) := h
    clear h ho e1 hi hp hn
    go_enter Try.func19, Try.ntmps19
    go_wp2_with (go_at_call 35; refine C.mono ?_; rintro e w1 ⟨rfl, f1⟩)
    go_ret
    exact ⟨by rw [HR.out.1]; rfl, by rw [HR.out.2]; exact (HC.out.fr0 f1).more (by omega), Gm.ofFr0 f1⟩
  | true =>
    rw [e1] at C
    have hcn : 0 ≤ cntN S.notes i p ∧ cntN S.notes i p ≤ 100000000000000 := by
      unfold cntN
      cases e : nfnd S.notes i p with
      | none => simp
      | some x => have := ho.nf x (List.mem_of_find?_eq_some e); simp only [Option.getD_some]; omega
    have hupd := fails_upd S.notes (fun x hx => (ho.nf x hx).1) i p
    have HR : Hid (failR S i p = cntN S.notes i p + 1 ∧ failB S i p = { S with notes := updN S.notes i p failU } ∧ failsF (updN S.notes i p failU) = putS (failsF S.notes) i p (cntN S.notes i p + 1)) := ⟨by simp [failR, e1], by simp [failB, e1], hupd⟩
    have HC : Hid (CA w B c n rs S) := h
    have HW : Hid (W64 i ∧ W64 p ∧ W64 (cntN S.notes i p + 1) ∧ n ≤ 100000000000000) := ⟨hi, hp, w64_small (by omega) (by omega), hn⟩
    clear h ho e1 hi hp hn hupd
    go_enter Try.func19, Try.ntmps19
    go_upto_region 4 with (go_at_call 35; refine C.mono ?_; rintro e w1 ⟨rfl, f1⟩; clear C)
    have hc2 := (HC.out.fr0 f1).fr0 ((Fr.refl [] w1).alloc (.cells #[.int .i64 i, .int .i64 p] 94))
    have hx := heap_alloc_new w1 (.cells #[.int .i64 i, .int .i64 p] 94)
    have hfr : Fr [] w (w1.alloc (.cells #[.int .i64 i, .int .i64 p] 94)) := f1.trans ((Fr.refl [] w1).alloc _)
    generalize w1.alloc (.cells #[.int .i64 i, .int .i64 p] 94) = V at *
    generalize w1.heap.size = sb at *
    have habs := hc2.abs
    obtain ⟨pa, pcap, hb, ov, fb, lb, hp2⟩ := hc2.ex
    generalize hq : cntN S.notes i p = q at *
    have hq0 : (failsF S.notes i p).getD 0 = q := by rw [cntN_eq, hq]
    have hbk := hp2.fails.blk
    have hsbf : sb ≠ fb := by rintro rfl; obtain ⟨es, cl, h⟩ := hbk; rw [hx] at h; cases h
    have hcf : c ≠ fb := by rintro rfl; obtain ⟨es, cl, h⟩ := hbk; rw [hp2.blk] at h; cases h
    have hsb2 : sb < V.heap.size := (Array.getElem?_eq_some_iff.1 hx).1
    have hcl2 : c < V.heap.size := (Array.getElem?_eq_some_iff.1 hp2.blk).1
    obtain ⟨v0, st, w2, hme, hsm, fme, hst⟩ := (hp2.fails.fr (Fr.refl [] V).drew (by simp)).entry (by have := HW.out.2.2.2; omega) HW.out.1 HW.out.2.1
    rw [hq0] at hsm
    have f2 : Fr [fb] V w2 := ((Fr.refl [] V).drew.sub (by simp)).trans fme
    have L4 : Hid (∀ w', Fr [fb] V w' → w'.cell? ⟨c, 4, none⟩ = some (.map (some fb))) := fun w' f => f.cellNew hp2.blk (by simpa using hcf) rfl
    have LS : Hid (∀ w', Fr [fb] V w' → w'.rangeAt sb 0 [.int .i64 i, .int .i64 p]) := fun w' f => range_block ((f.block _ hsb2 (by simpa using hsbf)).trans hx)
    have hl1 : (Instr.lookup 62 (.map (some fb)) (.agg #[.int .i64 i, .int .i64 p]) false).run Try.prog V.drew = .ok (.int .i64 q) V.drew := by have := (hp2.fails.fr (Fr.refl [] V).drew (by simp)).look HW.out.1 HW.out.2.1; rw [hq0] at this; exact this
    have hl2 : (Instr.lookup 62 (.map (some fb)) (.agg #[.int .i64 i, .int .i64 p]) false).run Try.prog w2 = .ok (.int .i64 q) w2 := by have := hsm.look HW.out.1 HW.out.2.1; rw [show (putS (failsF S.notes) i p q i p).getD 0 = q by simp [putS]] at this; exact this
    have hwr : IntKind.i64.wrap (q + 1) = q + 1 := by rw [IntWalk.i64_left, IntWalk.wrap64_in _ (by omega)]
    have HP : Hid (CP V B c pa pcap hb ov fb lb S.lim S.pk S.last S.top n rs (rs.map mb) (failsF S.notes) (linksF S.notes) ∧ rs.map absR = S.rows ∧ Fr [] w V ∧ V.heap[sb]? = some (.cells #[.int .i64 i, .int .i64 p] 94 (0, 0)) ∧ sb ≠ fb ∧ c ≠ fb) := ⟨hp2, habs, hfr, hx, hsbf, hcf⟩
    have hST : Hid (∀ (wA : World), wA.heap[fb]? = w2.heap[fb]? → ∃ w3, (Instr.entryStore 62 (.map (some fb)) (.int .i64 st) (.int .i64 (q + 1))).run Try.prog wA = .ok () w3 ∧ SM w3 fb (n + 1) (putS (failsF S.notes) i p (q + 1)) ∧ Fr [fb] wA w3) := fun wA h => hst wA (q + 1) HW.out.2.2.1 h
    have hS1 : Fr [fb] V w2 := f2
    have hS : Fr [fb] V V.drew := (Fr.refl _ _).drew
    change (Instr.mapEntry 62 (.map (some fb)) (.agg #[.int .i64 i, .int .i64 p])).run Try.prog V.drew = _ at hme
    clear hc2 hp2 habs hfr hx hsbf hcf hsb2 hcl2 hbk hsm fme hst f2 hq f1 HC hcn
    refine reg_in (fun w' => Fr [fb] V w') ?_
    generalize V.drew = Y at *
    refine tk 0 (some 19) (.pointer (some ⟨c, 0, none⟩)) rfl rfl (Or.inl ⟨rfl, fun wq hSq => by first | rfl | go_simp⟩) (by decide +kernel) hS ?_
    simp only [Act.put, List.setIfInBounds_toArray, List.set_cons_zero, List.set_cons_succ]
    refine tk 1 (some 20) (.pointer (some ⟨c, 0, none⟩)) rfl rfl (Or.inl ⟨rfl, fun wq hSq => by first | rfl | go_simp⟩) (by decide +kernel) hS ?_
    simp only [Act.put, List.setIfInBounds_toArray, List.set_cons_zero, List.set_cons_succ]
    refine tk 2 (some 21) (.pointer (some ⟨c, 4, none⟩)) rfl rfl (Or.inl ⟨rfl, fun wq hSq => by first | rfl | go_simp⟩) (by decide +kernel) hS ?_
    simp only [Act.put, List.setIfInBounds_toArray, List.set_cons_zero, List.set_cons_succ]
    refine tk 3 (some 22) (.map (some fb)) rfl rfl (Or.inl ⟨rfl, fun wq hSq => by have q := L4.out wq hSq; go_simp⟩) (by decide +kernel) hS ?_
    simp only [Act.put, List.setIfInBounds_toArray, List.set_cons_zero, List.set_cons_succ]
    refine tk 4 (some 23) (.agg #[.int .i64 i, .int .i64 p]) rfl rfl ?_ (by decide +kernel) hS ?_
    · exact yieldsIf_load_mid rfl 94 (.tmp 7) rfl sb 0 rfl [.int .i64 i, .int .i64 p] _ (fun wq hSq => LS.out wq hSq) Try.underlying94 rfl info94
    simp only [Act.put, List.setIfInBounds_toArray, List.set_cons_zero, List.set_cons_succ]
    refine wpAnyH_ready (rs := [5, 7]) (by decide +kernel) (by simp) ?_
    refine AllReadyH.cons rfl (fun K hK => ?_) ?_
    · skip
      go_simp
      refine hK.out _ _ hS (fun _ => ?_)
      clear hK K
      try simp only [List.getElem_toArray, List.getElem_cons_succ, List.getElem_cons_zero, Act.put, List.setIfInBounds_toArray, List.set_cons_zero, List.set_cons_succ]
      refine tk 6 (some 25) (.int .i64 (q + 1)) rfl rfl (Or.inl ⟨rfl, fun wq hSq => by go_simp⟩) (by decide +kernel) hS ?_
      simp only [Act.put, List.setIfInBounds_toArray, List.set_cons_zero, List.set_cons_succ]
      refine wpAnyH_ready (rs := [7]) (by decide +kernel) (by simp) ?_
      refine AllReadyH.cons rfl (fun K hK => ?_) AllReadyH.nil
      go_simp
      have hS := hS1
      refine hK.out _ _ hS (fun _ => ?_)
      clear hK K
      try simp only [List.getElem_toArray, List.getElem_cons_succ, List.getElem_cons_zero, Act.put, List.setIfInBounds_toArray, List.set_cons_zero, List.set_cons_succ]
      refine tk 8 (some 27) (.int .i64 st) rfl rfl (Or.inl ⟨rfl, fun wq hSq => by go_simp⟩) (by decide +kernel) hS ?_
      simp only [Act.put, List.setIfInBounds_toArray, List.set_cons_zero, List.set_cons_succ]
      refine wpAnyH_ready (rs := [9]) (by decide +kernel) (by simp) ?_
      refine AllReadyH.cons rfl (fun K hK => ?_) AllReadyH.nil
      obtain ⟨w3, h3, hs3, f3⟩ := hST.out w2 rfl
      go_simp
      have hS3 : Fr [fb] V w3 := hS.trans f3
      refine hK.out _ _ hS3 (fun _ => ?_)
      clear hK K
      try simp only [List.getElem_toArray, List.getElem_cons_succ, List.getElem_cons_zero, Act.put, List.setIfInBounds_toArray, List.set_cons_zero, List.set_cons_succ]
      refine wpAnyH_done (by decide +kernel) ?_ _
      refine plain_end ?_
      have hF3 : Fr [] w V := HP.out.2.2.1
      have hP3 : CP w3 B c pa pcap hb ov fb lb S.lim S.pk S.last S.top (n + 1) rs (rs.map mb) (failsF (updN S.notes i p failU)) (linksF S.notes) := HP.out.1.setFails hS3 (by omega) (by rw [HR.out.2.2]; exact hs3)
      have HGM : Hid (Gm B pP true w w3) := (Gm.ofFr0 hF3).trans (HP.out.1.gmFails hS3)
      have hsx := (hS3.block _ (Array.getElem?_eq_some_iff.1 HP.out.2.2.2.1).1 (by simpa using HP.out.2.2.2.2.1)).trans HP.out.2.2.2.1
      have M4 : Hid (∀ w', Fr [] w3 w' → w'.cell? ⟨c, 4, none⟩ = some (.map (some fb))) := fun w' f => f.cellNew hP3.blk (by simp) rfl
      have MS : Hid (∀ w', Fr [] w3 w' → w'.rangeAt sb 0 [.int .i64 i, .int .i64 p]) := fun w' f => range_block ((f.block _ (Array.getElem?_eq_some_iff.1 hsx).1 (by simp)).trans hsx)
      have ML : Hid (∀ w', Fr [] w3 w' → (Instr.lookup 62 (.map (some fb)) (.agg #[.int .i64 i, .int .i64 p]) false).run Try.prog w' = .ok (.int .i64 (q + 1)) w') := fun w' f => by
        have := (hs3.fr f (by simp)).look HW.out.1 HW.out.2.1
        rw [show (putS (failsF S.notes) i p (q + 1) i p).getD 0 = q + 1 by simp [putS]] at this
        exact this
      have HCA : Hid (CA w3 B c (n + 1) rs { S with notes := updN S.notes i p failU }) := ⟨⟨_, _, _, _, _, _, by
        have h := hP3
        rw [← links_updF S.notes i p] at h
        exact h⟩, HP.out.2.1⟩
      clear hF3 hP3 hsx hS hS3 h3 hs3 f3 hl1 hl2 hme hS1 L4 LS HP hST
      go_upto_region 5 with fail
      refine reg_in (fun w' => Fr [] w3 w') ?_
      have hS : Fr [] w3 w3.drew := (Fr.refl _ _).drew
      generalize w3.drew = T at *
      refine tk 0 (some 28) (.pointer (some ⟨c, 0, none⟩)) rfl rfl (Or.inl ⟨rfl, fun wq hSq => by first | rfl | go_simp⟩) (by decide +kernel) hS ?_
      simp only [Act.put, List.setIfInBounds_toArray, List.set_cons_zero, List.set_cons_succ]
      refine tk 1 (some 29) (.pointer (some ⟨c, 0, none⟩)) rfl rfl (Or.inl ⟨rfl, fun wq hSq => by first | rfl | go_simp⟩) (by decide +kernel) hS ?_
      simp only [Act.put, List.setIfInBounds_toArray, List.set_cons_zero, List.set_cons_succ]
      refine tk 2 (some 30) (.pointer (some ⟨c, 4, none⟩)) rfl rfl (Or.inl ⟨rfl, fun wq hSq => by first | rfl | go_simp⟩) (by decide +kernel) hS ?_
      simp only [Act.put, List.setIfInBounds_toArray, List.set_cons_zero, List.set_cons_succ]
      refine tk 3 (some 31) (.map (some fb)) rfl rfl (Or.inl ⟨rfl, fun wq hSq => by have q := M4.out wq hSq; go_simp⟩) (by decide +kernel) hS ?_
      simp only [Act.put, List.setIfInBounds_toArray, List.set_cons_zero, List.set_cons_succ]
      refine tk 4 (some 32) (.agg #[.int .i64 i, .int .i64 p]) rfl rfl ?_ (by decide +kernel) hS ?_
      · exact yieldsIf_load_mid rfl 94 (.tmp 7) rfl sb 0 rfl [.int .i64 i, .int .i64 p] _ (fun wq hSq => MS.out wq hSq) Try.underlying94 rfl info94
      simp only [Act.put, List.setIfInBounds_toArray, List.set_cons_zero, List.set_cons_succ]
      refine tk 5 (some 33) (.int .i64 (q + 1)) rfl rfl (Or.inl ⟨rfl, fun wq hSq => by have q := ML.out wq hSq; go_simp⟩) (by decide +kernel) hS ?_
      simp only [Act.put, List.setIfInBounds_toArray, List.set_cons_zero, List.set_cons_succ]
      refine tk 6 (some 6) (.int .i64 (q + 1)) rfl rfl (Or.inl ⟨rfl, fun wq hSq => by first | rfl | go_simp⟩) (by decide +kernel) hS ?_
      simp only [Act.put, List.setIfInBounds_toArray, List.set_cons_zero, List.set_cons_succ]
      refine wpAnyH_done (by decide +kernel) ?_ _
      refine plain_end ?_
      have HFI : Hid (Fr [] w3 T) := hS
      clear hS M4 MS ML
      go_wp2
      go_ret
      exact ⟨by rw [HR.out.1]; rfl, by rw [HR.out.2.1]; exact HCA.out.fr0 HFI.out, HGM.out.trans (Gm.ofFr0 HFI.out)⟩
    refine AllReadyH.cons rfl (fun K hK => ?_) AllReadyH.nil
    go_simp
    have hS := hS1
    refine hK.out _ _ hS (fun _ => ?_)
    clear hK K
    try simp only [List.getElem_toArray, List.getElem_cons_succ, List.getElem_cons_zero, Act.put, List.setIfInBounds_toArray, List.set_cons_zero, List.set_cons_succ]
    refine tk 8 (some 27) (.int .i64 st) rfl rfl (Or.inl ⟨rfl, fun wq hSq => by go_simp⟩) (by decide +kernel) hS ?_
    simp only [Act.put, List.setIfInBounds_toArray, List.set_cons_zero, List.set_cons_succ]
    refine wpAnyH_ready (rs := [5]) (by decide +kernel) (by simp) ?_
    refine AllReadyH.cons rfl (fun K hK => ?_) AllReadyH.nil
    go_simp
    refine hK.out _ _ hS (fun _ => ?_)
    clear hK K
    try simp only [List.getElem_toArray, List.getElem_cons_succ, List.getElem_cons_zero, Act.put, List.setIfInBounds_toArray, List.set_cons_zero, List.set_cons_succ]
    refine tk 6 (some 25) (.int .i64 (q + 1)) rfl rfl (Or.inl ⟨rfl, fun wq hSq => by go_simp⟩) (by decide +kernel) hS ?_
    simp only [Act.put, List.setIfInBounds_toArray, List.set_cons_zero, List.set_cons_succ]
    refine wpAnyH_ready (rs := [9]) (by decide +kernel) (by simp) ?_
    refine AllReadyH.cons rfl (fun K hK => ?_) AllReadyH.nil
    obtain ⟨w3, h3, hs3, f3⟩ := hST.out w2 rfl
    go_simp
    have hS3 : Fr [fb] V w3 := hS.trans f3
    refine hK.out _ _ hS3 (fun _ => ?_)
    clear hK K
    try simp only [List.getElem_toArray, List.getElem_cons_succ, List.getElem_cons_zero, Act.put, List.setIfInBounds_toArray, List.set_cons_zero, List.set_cons_succ]
    refine wpAnyH_done (by decide +kernel) ?_ _
    refine plain_end ?_
    have hF3 : Fr [] w V := HP.out.2.2.1
    have hP3 : CP w3 B c pa pcap hb ov fb lb S.lim S.pk S.last S.top (n + 1) rs (rs.map mb) (failsF (updN S.notes i p failU)) (linksF S.notes) := HP.out.1.setFails hS3 (by omega) (by rw [HR.out.2.2]; exact hs3)
    have HGM : Hid (Gm B pP true w w3) := (Gm.ofFr0 hF3).trans (HP.out.1.gmFails hS3)
    have hsx := (hS3.block _ (Array.getElem?_eq_some_iff.1 HP.out.2.2.2.1).1 (by simpa using HP.out.2.2.2.2.1)).trans HP.out.2.2.2.1
    have M4 : Hid (∀ w', Fr [] w3 w' → w'.cell? ⟨c, 4, none⟩ = some (.map (some fb))) := fun w' f => f.cellNew hP3.blk (by simp) rfl
    have MS : Hid (∀ w', Fr [] w3 w' → w'.rangeAt sb 0 [.int .i64 i, .int .i64 p]) := fun w' f => range_block ((f.block _ (Array.getElem?_eq_some_iff.1 hsx).1 (by simp)).trans hsx)
    have ML : Hid (∀ w', Fr [] w3 w' → (Instr.lookup 62 (.map (some fb)) (.agg #[.int .i64 i, .int .i64 p]) false).run Try.prog w' = .ok (.int .i64 (q + 1)) w') := fun w' f => by
      have := (hs3.fr f (by simp)).look HW.out.1 HW.out.2.1
      rw [show (putS (failsF S.notes) i p (q + 1) i p).getD 0 = q + 1 by simp [putS]] at this
      exact this
    have HCA : Hid (CA w3 B c (n + 1) rs { S with notes := updN S.notes i p failU }) := ⟨⟨_, _, _, _, _, _, by
      have h := hP3
      rw [← links_updF S.notes i p] at h
      exact h⟩, HP.out.2.1⟩
    clear hF3 hP3 hsx hS hS3 h3 hs3 f3 hl1 hl2 hme hS1 L4 LS HP hST
    go_upto_region 5 with fail
    refine reg_in (fun w' => Fr [] w3 w') ?_
    have hS : Fr [] w3 w3.drew := (Fr.refl _ _).drew
    generalize w3.drew = T at *
    refine tk 0 (some 28) (.pointer (some ⟨c, 0, none⟩)) rfl rfl (Or.inl ⟨rfl, fun wq hSq => by first | rfl | go_simp⟩) (by decide +kernel) hS ?_
    simp only [Act.put, List.setIfInBounds_toArray, List.set_cons_zero, List.set_cons_succ]
    refine tk 1 (some 29) (.pointer (some ⟨c, 0, none⟩)) rfl rfl (Or.inl ⟨rfl, fun wq hSq => by first | rfl | go_simp⟩) (by decide +kernel) hS ?_
    simp only [Act.put, List.setIfInBounds_toArray, List.set_cons_zero, List.set_cons_succ]
    refine tk 2 (some 30) (.pointer (some ⟨c, 4, none⟩)) rfl rfl (Or.inl ⟨rfl, fun wq hSq => by first | rfl | go_simp⟩) (by decide +kernel) hS ?_
    simp only [Act.put, List.setIfInBounds_toArray, List.set_cons_zero, List.set_cons_succ]
    refine tk 3 (some 31) (.map (some fb)) rfl rfl (Or.inl ⟨rfl, fun wq hSq => by have q := M4.out wq hSq; go_simp⟩) (by decide +kernel) hS ?_
    simp only [Act.put, List.setIfInBounds_toArray, List.set_cons_zero, List.set_cons_succ]
    refine tk 4 (some 32) (.agg #[.int .i64 i, .int .i64 p]) rfl rfl ?_ (by decide +kernel) hS ?_
    · exact yieldsIf_load_mid rfl 94 (.tmp 7) rfl sb 0 rfl [.int .i64 i, .int .i64 p] _ (fun wq hSq => MS.out wq hSq) Try.underlying94 rfl info94
    simp only [Act.put, List.setIfInBounds_toArray, List.set_cons_zero, List.set_cons_succ]
    refine tk 5 (some 33) (.int .i64 (q + 1)) rfl rfl (Or.inl ⟨rfl, fun wq hSq => by have q := ML.out wq hSq; go_simp⟩) (by decide +kernel) hS ?_
    simp only [Act.put, List.setIfInBounds_toArray, List.set_cons_zero, List.set_cons_succ]
    refine tk 6 (some 6) (.int .i64 (q + 1)) rfl rfl (Or.inl ⟨rfl, fun wq hSq => by first | rfl | go_simp⟩) (by decide +kernel) hS ?_
    simp only [Act.put, List.setIfInBounds_toArray, List.set_cons_zero, List.set_cons_succ]
    refine wpAnyH_done (by decide +kernel) ?_ _
    refine plain_end ?_
    have HFI : Hid (Fr [] w3 T) := hS
    clear hS M4 MS ML
    go_wp2
    go_ret
    exact ⟨by rw [HR.out.1]; rfl, by rw [HR.out.2.1]; exact HCA.out.fr0 HFI.out, HGM.out.trans (Gm.ofFr0 HFI.out)⟩
end Go.Proofs.Ytnhjplfdfbbihaa
