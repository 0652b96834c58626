/-
  The document puts a trace; condition: the cache and the trace lie as told.
-/
import Derived.Test.YtnhjplfdfbbihaaCcJL
import Derived.Test.YtnhjplfdfbbihaaRows
import Derived.Test.YtnhjplfdfbbihaaDor
namespace Go.Proofs.Ytnhjplfdfbbihaa
open Go.RowKit Go.Shelf Go.Maps Go.ChangeShapes
set_option linter.unusedVariables false
set_option linter.unusedSimpArgs false
set_option maxRecDepth 100000 in
set_option maxHeartbeats 8000000 in
theorem put_r {w : World} {B c n : Nat} {rs : List Rt} {S : Bk} (h : RA w B c rs S) (ho : Ok S n) (hn : n ≤ 1048576) (hBw : B ≤ w.heap.size) {t : Tr} (ht : TrOk w B t) (hat : ATOk t.abs) :
    Calls Try.prog 23 #[.pointer (some ⟨c, 0, none⟩), .agg t.arr] w fun e w' => e = .returned (.int .i64 (putR S)) ∧ (∃ rs', RA w' B c rs' (putB S t.abs)) ∧ Gm B pR false w w' := by
  have F1 : Fr [] w (w.alloc (.cells t.arr 35)) := (Fr.refl _ _).alloc _
  have h1 := h.fr0 F1
  have hx := heap_alloc_new w (.cells t.arr 35)
  have ht1 := ht.fr0 F1
  have hB1 : B ≤ (w.alloc (.cells t.arr 35)).heap.size := Nat.le_trans hBw F1.size
  have k2 : (w.alloc (.cells t.arr 35)).cell? ⟨c, 2, none⟩ = some (.int .i64 S.lim) := by obtain ⟨rv, nv, pa, pcap, pf, used, hp, _⟩ := h1.ex; exact at_cells hp.blk 2 rfl
  have kc0 : kw t.k := hat.kw
  by_cases h0 : S.lim = 0
  · have HR : Hid (putR S = -1 ∧ putB S t.abs = S) := by refine ⟨?_, ?_⟩ <;> simp [putR, putB, h0]
    have HC : Hid (RA (w.alloc (.cells t.arr 35)) B c rs S ∧ Fr [] w (w.alloc (.cells t.arr 35))) := ⟨h1, F1⟩
    rw [h0] at k2
    clear h h1 ho hx ht ht1 hB1 hat h0 F1 hn hBw
    go_enter Try.func23, Try.ntmps23
    go_upto_region 1 with fail
    generalize w.alloc (.cells t.arr 35) = V at *
    go_wp2
    go_ret
    exact ⟨by rw [HR.out.1]; rfl, ⟨_, by rw [HR.out.2]; exact HC.out.1⟩, Gm.ofFr0 HC.out.2⟩
  · obtain ⟨lm, hlm⟩ : ∃ lm, S.lim = lm := ⟨_, rfl⟩
    rw [hlm] at k2
    have hl0 : ¬ ((lm : Int) = 0) := by omega
    have HK : Hid ((w.alloc (.cells t.arr 35)).rangeAt w.heap.size 0 (kc t.k).toList) := Tr.key_range hx
    have CF := find_any h1 ho kc0
    have HC : Hid (Fr [] w (w.alloc (.cells t.arr 35)) ∧ (w.alloc (.cells t.arr 35)).heap[w.heap.size]? = some (.cells t.arr 35 (0, 0)) ∧ TrOk (w.alloc (.cells t.arr 35)) B t ∧ B ≤ (w.alloc (.cells t.arr 35)).heap.size ∧ Ok S n ∧ S.lim ≠ 0 ∧ n ≤ 1048576 ∧ RA (w.alloc (.cells t.arr 35)) B c rs S) := ⟨F1, hx, ht1, hB1, ho, h0, hn, h1⟩
    have HAT : Hid (ATOk t.abs ∧ rs.map absR = S.rows) := ⟨hat, h.abs⟩
    -- what goes on behind the drop
    have fin : ∀ (W2 : World) (rs2 : List Rt), RutI w W2 B c n w.heap.size t (dropB S t.k) rs2 (roomB (dropB S t.k)) → ∀ {e : Exit} {a : Act} {w' : World}, bodyPost Try.prog Try.f23 (fun e w' => e = .returned (.int .i64 (((roomB (dropB S t.k)).last + 1 : Nat) : Int)) ∧ (∃ rs', RA w' B c rs' (pushB (roomB (dropB S t.k)) t.abs)) ∧ Gm B pR false W2 w') e a w' → bodyPost Try.prog Try.f23 (fun e w' => e = .returned (.int .i64 (putR S)) ∧ (∃ rs', RA w' B c rs' (putB S t.abs)) ∧ Gm B pR false w w') e a w' := by
      intro W2 rs2 hI e a w' hh
      refine bodyPost_mono (fun e w' hq => ?_) hh
      obtain ⟨h1, h2, h3⟩ := hq
      rw [room_last, drop_last] at h1
      have e1 : putR S = ((S.last + 1 : Nat) : Int) := by unfold putR; rw [if_neg h0]; rfl
      have e2 : putB S t.abs = pushB (roomB (dropB S t.k)) t.abs := by unfold putB; rw [if_neg h0]; rfl
      exact ⟨by rw [e1]; exact h1, by rw [e2]; exact h2, hI.gm.trans h3⟩
    have HFIN := hid fin
    clear h h1 ho hx ht ht1 hB1 hat h0 F1 hlm hn hBw fin
    cases hkf : kfind S.rows t.k with
    | none =>
      rw [hkf] at CF
      change Calls Try.prog 36 _ _ (fun e w' => e = .returned (.int .i64 (-1)) ∧ _) at CF
      have HD : Hid (dropB S t.k = S) := by show dropB S t.k = S; unfold dropB; rw [hkf]
      clear hkf
      go_enter Try.func23, Try.ntmps23
      go_upto_region 3 with fail
      generalize w.alloc (.cells t.arr 35) = V at *
      generalize w.heap.size = tb at *
      go_wp2_with (first
        | refine wpList_ld29 rfl (.tmp 13) rfl tb 0 rfl t.k HK.out ?_
        | (go_at_call 36; refine CF.mono ?_; rintro e w1 ⟨rfl, f1⟩; have HF1 : Hid (Fr [] V w1) := f1; clear f1 CF HK k2))
      obtain ⟨hF1, hx, ht1, hB1, ho, h0, hn, hra⟩ := HC.out
      refine rut_loop (W0 := w) (S1 := dropB S t.k) (S := S) (t := t) (tb := tb) (rs := rs) hn ⟨hra.fr0 HF1.out, ho, by rw [HD.out], h0, (HF1.out.block _ (Array.getElem?_eq_some_iff.1 hx).1 (by simp)).trans hx, ht1.fr0 HF1.out, Gm.ofFr0 (hF1.trans HF1.out), Nat.le_trans hB1 HF1.out.size⟩ (hid ?_)
      intro rs2 W2 hI _ _ _ _ _ _ _ _ _ _ _ _ _ _ _ _ _ _ _ _ _ _ _ _ _ _ _ _ _ _ _ _ _ _ _ _ _ _ _ _ _ _ _ _ _ _ _ _ _ _ _ _ _ _ _ _ _
      apply_assumption
      refine Code.wp_mono ?_ (put_rt (t := t) hI.ra hI.ok hn hI.big hI.box hI.tr)
      intro e a w' hh
      exact HFIN.out W2 rs2 hI hh
    | some i =>
      rw [hkf] at CF
      change Calls Try.prog 36 _ _ (fun e w' => e = .returned (.int .i64 (i : Int)) ∧ _) at CF
      have HD : Hid (dropB S t.k = goneB S i ∧ i < rs.length) := ⟨by unfold dropB; rw [hkf], kfind_lt HAT.out.2 hkf⟩
      have hi0 : (0 : Int) ≤ (i : Int) := by omega
      clear hkf
      go_enter Try.func23, Try.ntmps23
      go_upto_region 3 with fail
      generalize w.alloc (.cells t.arr 35) = V at *
      generalize w.heap.size = tb at *
      go_wp2_with (first
        | refine wpList_ld29 rfl (.tmp 13) rfl tb 0 rfl t.k HK.out ?_
        | (go_at_call 36; refine CF.mono ?_; rintro e w1 ⟨rfl, f1⟩; have HF1 : Hid (Fr [] V w1) := f1; have CG := gone_any (HC.out.2.2.2.2.2.2.2.fr0 f1) HC.out.2.2.2.2.1 HC.out.2.2.2.2.2.2.1 (Nat.le_trans HC.out.2.2.2.1 f1.size) HD.out.2; clear f1 CF HK k2)
        | (go_at_call 37; refine CG.mono ?_; rintro e w2 ⟨rfl, h2, g2⟩; have H2 : Hid (RA w2 B c (rs.eraseIdx i) (goneB S i) ∧ Gm B pR false w1 w2) := ⟨h2, g2⟩; clear h2 g2 CG))
      obtain ⟨hF1, hx, ht1, hB1, ho, h0, hn, hra⟩ := HC.out
      have gV : Gm B pR false V w2 := (Gm.ofFr0 HF1.out).trans H2.out.2
      refine rut_loop (W0 := w) (S1 := dropB S t.k) (S := dropB S t.k) (t := t) (tb := tb) (rs := rs.eraseIdx i) hn ⟨by rw [HD.out.1]; exact H2.out.1, ho.drop _, rfl, by rw [drop_lim]; exact h0, (gV.block _ (Array.getElem?_eq_some_iff.1 hx).1 (.inr (.inl ⟨_, _, _, hx, rfl⟩))).trans hx, ht1.gm gV pR_ro, (Gm.ofFr0 hF1).trans gV, Nat.le_trans hB1 gV.size⟩ (hid ?_)
      intro rs2 W2 hI _ _ _ _ _ _ _ _ _ _ _ _ _ _ _ _ _ _ _ _ _ _ _ _ _ _ _ _ _ _ _ _ _ _ _ _ _ _ _ _ _ _ _ _ _ _ _ _ _ _ _ _ _ _ _ _ _
      apply_assumption
      refine Code.wp_mono ?_ (put_rt (t := t) hI.ra hI.ok hn hI.big hI.box hI.tr)
      intro e a w' hh
      exact HFIN.out W2 rs2 hI hh
end Go.Proofs.Ytnhjplfdfbbihaa
namespace Go.Proofs.Ytnhjplfdfbbihaa
open Go.RowKit Go.Shelf Go.Maps Go.ChangeShapes
set_option linter.unusedVariables false
set_option linter.unusedSimpArgs false
/-- A call: what, a trace, numbers. -/
structure Ac where
  d : Int
  t : Tr
  id : Int
  op : Int
  to : Int
def Ac.cl (a : Ac) : List Value := .int .i64 a.d :: (a.t.cl ++ [.int .i64 a.id, .int .i64 a.op, .int .i64 a.to])
theorem Ac.cl_len (a : Ac) : a.cl.length = 21 := by simp [Ac.cl, Tr.cl_len]
def Ac.arr (a : Ac) : Array Value := a.cl.toArray
theorem Ac.arr_size (a : Ac) : a.arr.size = 21 := by simp [Ac.arr, Ac.cl_len]
theorem Ac.at_d (a : Ac) : a.arr[0]? = some (.int .i64 a.d) := rfl
theorem Ac.at_n (a : Ac) : a.arr[18]? = some (.int .i64 a.id) ∧ a.arr[19]? = some (.int .i64 a.op) ∧ a.arr[20]? = some (.int .i64 a.to) := by
  obtain ⟨d, ⟨⟨a, b, c, d', e, f, g, h, x, j⟩, fn, pc, ia, ic, ins, oa, oc, ops, la, lc, links, va, vc, virts, ba, bc, back⟩, i, p, t⟩ := a
  exact ⟨rfl, rfl, rfl⟩
theorem Ac.range {w : World} {b : Nat} {a : Ac} (h : w.heap[b]? = some (.cells a.arr 37 (0, 0))) : w.rangeAt b 1 a.t.cl := fun j v hv => by
  rw [Nat.add_comm]
  refine at_cells h (j + 1) ?_
  have hj : j < 17 := by have := (List.getElem?_eq_some_iff.1 hv).1; rw [Tr.cl_len] at this; exact this
  simp only [Ac.arr, Ac.cl, List.getElem?_toArray, List.getElem?_cons_succ]
  rw [List.getElem?_append_left (by rw [Tr.cl_len]; exact hj)]
  exact hv
theorem Ac.key_range {w : World} {b : Nat} {a : Ac} (h : w.heap[b]? = some (.cells a.arr 37 (0, 0))) : w.rangeAt b 1 (kc a.t.k).toList := fun j v hv => by
  refine Ac.range h j v ?_
  have hj : j < 10 := by have := (List.getElem?_eq_some_iff.1 hv).1; rw [kcl_len] at this; exact this
  rw [Tr.cl, List.getElem?_append_left (by simp [kl0_len]; exact hj)]
  simpa [kc] using hv
theorem AwS.more {w0 w : World} {B c n m : Nat} {S : Bk} (h : AwS w0 B c w n S) (hm : n ≤ m) : AwS w0 B c w m S := ⟨by obtain ⟨rs, h1⟩ := h.ca; exact ⟨rs, h1.more hm⟩, h.ok.more hm, h.pw, h.fr, h.lo, h.hi⟩
theorem AwS.gmR {w0 w w' : World} {B c n : Nat} {S : Bk} (h : AwS w0 B c w n S) (g : Gm B pR false w w') : AwS w0 B c w' n S := ⟨by obtain ⟨rs, h1⟩ := h.ca; exact ⟨rs, h1.gm g⟩, h.ok, h.pw, h.fr.overM g h.lo, h.lo, Nat.le_trans h.hi g.size⟩
theorem drop_pk2 (S : Bk) (k : Ky) : (dropB S k).pk = S.pk := drop_pk S k
theorem AwS.drop {w0 w : World} {B c n : Nat} {S : Bk} (h : AwS w0 B c w n S) (hn : n ≤ 100000000000000) {k : Ky} (hk : kw k) :
    Calls Try.prog 18 #[.pointer (some ⟨c, 0, none⟩), .agg (kc k)] w fun e w' => e = .returned (.bool (kfind S.rows k).isSome) ∧ AwS w0 B c w' n (dropB S k) ∧ Gm B pP true w w' := by
  obtain ⟨rs, hc⟩ := h.ca
  refine (drop_any hc h.ok hn h.hi hk).mono ?_
  rintro e w' ⟨h1, h2, h3⟩
  exact ⟨h1, ⟨h2, h.ok.drop k, by rw [drop_pk]; exact h.pw, h.fr.overM h3 h.lo, h.lo, Nat.le_trans h.hi h3.size⟩, h3⟩
theorem AwS.fail {w0 w : World} {B c n : Nat} {S : Bk} (h : AwS w0 B c w n S) (hn : n ≤ 100000000000000) {i p : Int} (hi : W64 i) (hp : W64 p) :
    Calls Try.prog 19 #[.pointer (some ⟨c, 0, none⟩), .int .i64 i, .int .i64 p] w fun e w' => e = .returned (.int .i64 (failR S i p)) ∧ AwS w0 B c w' (n + 1) (failB S i p) ∧ Gm B pP true w w' := by
  obtain ⟨rs, hc⟩ := h.ca
  refine (fail_any hc h.ok hn hi hp).mono ?_
  rintro e w' ⟨h1, h2, h3⟩
  exact ⟨h1, ⟨⟨rs, h2⟩, h.ok.fail hi hp, by unfold failB; split <;> exact h.pw, h.fr.overM h3 h.lo, h.lo, Nat.le_trans h.hi h3.size⟩, h3⟩
theorem AwS.link {w0 w : World} {B c n : Nat} {S : Bk} (h : AwS w0 B c w n S) (hn : n ≤ 100000000000000) {i p t : Int} (hi : W64 i) (hp : W64 p) (ht : W64 t) :
    Calls Try.prog 20 #[.pointer (some ⟨c, 0, none⟩), .int .i64 i, .int .i64 p, .int .i64 t] w fun e w' => e = .returned (.int .i64 (linkR S i p t)) ∧ AwS w0 B c w' (n + 1) (linkB S i p t) ∧ Gm B pP true w w' := by
  obtain ⟨rs, hc⟩ := h.ca
  refine (link_any hc h.ok hn hi hp ht).mono ?_
  rintro e w' ⟨h1, h2, h3⟩
  exact ⟨h1, ⟨⟨rs, h2⟩, h.ok.link hi hp ht, by unfold linkB; split <;> exact h.pw, h.fr.overM h3 h.lo, h.lo, Nat.le_trans h.hi h3.size⟩, h3⟩
theorem AwS.linked {w0 w : World} {B c n : Nat} {S : Bk} (h : AwS w0 B c w n S) {i p : Int} (hi : W64 i) (hp : W64 p) :
    Calls Try.prog 17 #[.pointer (some ⟨c, 0, none⟩), .int .i64 i, .int .i64 p] w fun e w' => e = .returned (.tuple #[.int .i64 ((linksF S.notes i p).getD 0), .bool (linksF S.notes i p).isSome]) ∧ Fr [] w w' := by
  obtain ⟨rs, hc⟩ := h.ca
  exact linked_any hc hi hp
theorem put_limB (S : Bk) (t : AT) : (putB S t).lim = S.lim := by
  unfold putB
  split
  · rfl
  · show (roomB (dropB S t.k)).lim = _
    rw [room_lim, drop_lim]
theorem fail_limB (S : Bk) (i p : Int) : (failB S i p).lim = S.lim := by unfold failB; split <;> rfl
theorem link_limB (S : Bk) (i p t : Int) : (linkB S i p t).lim = S.lim := by unfold linkB; split <;> rfl
/-- Both caches. -/
structure AcI (w0 : World) (B c d : Nat) (w : World) (n : Nat) (S : Bk) : Prop where
  aw : AwS w0 B c w n S
  ra : ∃ rs, RA w B d rs S
theorem AcI.fr0 {w0 w w' : World} {B c d n : Nat} {S : Bk} (h : AcI w0 B c d w n S) (f : Fr [] w w') : AcI w0 B c d w' n S := ⟨h.aw.fr0 f, by obtain ⟨rs, h1⟩ := h.ra; exact ⟨rs, h1.fr0 f⟩⟩
/-- What is known of a call. -/
structure AcO (w : World) (B : Nat) (a : Ac) : Prop where
  tr : TrOk w B a.t
  at_ : ATOk a.t.abs
  id : W64 a.id
  op : W64 a.op
  to : W64 a.to
set_option maxRecDepth 100000 in
set_option maxHeartbeats 4000000 in
theorem act_put {w0 w : World} {B c d n : Nat} {S : Bk} (h : AcI w0 B c d w n S) (hn : n ≤ 1048576) {a : Ac} (ha : AcO w B a) (hd : a.d = 0) :
    Calls Try.prog 11 #[.pointer (some ⟨c, 0, none⟩), .pointer (some ⟨d, 0, none⟩), .agg a.arr] w fun e w' => e = .returned (.bool true) ∧ ∃ S', AcI w0 B c d w' (n + 1) S' ∧ S'.lim = S.lim := by
  have F1 : Fr [] w (w.alloc (.cells a.arr 37)) := (Fr.refl _ _).alloc _
  have hx := heap_alloc_new w (.cells a.arr 37)
  have k0 : (w.alloc (.cells a.arr 37)).cell? ⟨w.heap.size, 0, none⟩ = some (.int .i64 a.d) := at_cells hx 0 a.at_d
  have HI : Hid (AcI w0 B c d (w.alloc (.cells a.arr 37)) n S ∧ TrOk (w.alloc (.cells a.arr 37)) B a.t ∧ ATOk a.t.abs ∧ W64 a.id ∧ W64 a.op ∧ W64 a.to ∧ n ≤ 1048576) := ⟨h.fr0 F1, ha.tr.fr0 F1, ha.at_, ha.id, ha.op, ha.to, hn⟩
  have HX : Hid ((w.alloc (.cells a.arr 37)).heap[w.heap.size]? = some (.cells a.arr 37 (0, 0))) := hx
  clear h ha hn F1 hx
  rw [hd] at k0
  clear hd
  go_enter Try.func11, Try.ntmps11
  go_upto_region 1 with fail
  generalize w.alloc (.cells a.arr 37) = V at *
  generalize w.heap.size = ab at *
  go_upto_region 3 with fail
  clear k0
  have hF : Fr [] V V.drew := (Fr.refl _ _).drew
  have hS : V.drew.heap[ab]? = some (.cells a.arr 37 (0, 0)) := (hF.block _ (Array.getElem?_eq_some_iff.1 HX.out).1 (by simp)).trans HX.out
  have HY : Hid (AcI w0 B c d V.drew n S ∧ TrOk V.drew B a.t) := ⟨HI.out.1.fr0 hF, HI.out.2.1.fr0 hF⟩
  clear hF HX
  refine reg_in (fun w' => w'.heap[ab]? = some (.cells a.arr 37 (0, 0))) ?_
  generalize V.drew = Y at *
  have CP := HY.out.1.aw.put (by have := HI.out.2.2.2.2.2.2; omega) HY.out.2 HI.out.2.2.1
  refine tk 0 (some 21) (.pointer (some ⟨c, 0, none⟩)) rfl rfl (Or.inl ⟨rfl, fun wq hSq => by first | rfl | go_simp⟩) (by decide +kernel) hS ?_
  simp only [Act.put, List.setIfInBounds_toArray, List.set_cons_zero, List.set_cons_succ]
  refine tk 1 (some 22) (.pointer (some ⟨ab, 1, none⟩)) rfl rfl (Or.inl ⟨rfl, fun wq hSq => by first | rfl | go_simp⟩) (by decide +kernel) hS ?_
  simp only [Act.put, List.setIfInBounds_toArray, List.set_cons_zero, List.set_cons_succ]
  refine tk 2 (some 23) (.agg a.t.arr) rfl rfl ?_ (by decide +kernel) hS ?_
  · exact yieldsIf_load_mid rfl 35 (.tmp 22) rfl ab 1 rfl a.t.cl _ (fun wq hSq => Ac.range hSq) Try.underlying35 rfl (by rw [Tr.cl_len]; exact info35)
  simp only [Act.put, List.setIfInBounds_toArray, List.set_cons_zero, List.set_cons_succ]
  refine tk 4 (some 25) (.pointer (some ⟨d, 0, none⟩)) rfl rfl (Or.inl ⟨rfl, fun wq hSq => by first | rfl | go_simp⟩) (by decide +kernel) hS ?_
  simp only [Act.put, List.setIfInBounds_toArray, List.set_cons_zero, List.set_cons_succ]
  refine tk 5 (some 26) (.pointer (some ⟨ab, 1, none⟩)) rfl rfl (Or.inl ⟨rfl, fun wq hSq => by first | rfl | go_simp⟩) (by decide +kernel) hS ?_
  simp only [Act.put, List.setIfInBounds_toArray, List.set_cons_zero, List.set_cons_succ]
  refine tk 6 (some 27) (.agg a.t.arr) rfl rfl ?_ (by decide +kernel) hS ?_
  · exact yieldsIf_load_mid rfl 35 (.tmp 26) rfl ab 1 rfl a.t.cl _ (fun wq hSq => Ac.range hSq) Try.underlying35 rfl (by rw [Tr.cl_len]; exact info35)
  simp only [Act.put, List.setIfInBounds_toArray, List.set_cons_zero, List.set_cons_succ]
  refine wpAnyH_ready (rs := [3]) (by decide +kernel) (by simp) ?_
  refine AllReadyH.cons rfl (fun K hK => ?_) AllReadyH.nil
  go_simp
  refine CP.mono ?_
  rintro e Y2 ⟨rfl, h2, g2⟩
  have hS2 : Y2.heap[ab]? = some (.cells a.arr 37 (0, 0)) := (g2.block _ (Array.getElem?_eq_some_iff.1 hS).1 (.inr (.inl ⟨_, _, _, hS, rfl⟩))).trans hS
  obtain ⟨rs, hra⟩ := HY.out.1.ra
  have CR := put_r (hra.gm g2) HY.out.1.aw.ok HI.out.2.2.2.2.2.2 (Nat.le_trans HY.out.1.aw.hi g2.size) (HY.out.2.gm g2 pP_ro) HI.out.2.2.1
  have H2 : Hid (AwS w0 B c Y2 (n + 1) (putB S a.t.abs)) := h2
  clear h2 g2 hra CP
  have hS := hS2
  clear hS2
  refine hK.out _ _ hS (fun _ => ?_)
  clear hK K
  try simp only [List.getElem_toArray, List.getElem_cons_succ, List.getElem_cons_zero, Act.put, List.setIfInBounds_toArray, List.set_cons_zero, List.set_cons_succ]
  refine wpAnyH_ready (rs := [7]) (by decide +kernel) (by simp) ?_
  refine AllReadyH.cons rfl (fun K hK => ?_) AllReadyH.nil
  go_simp
  refine CR.mono ?_
  rintro e Y3 ⟨rfl, h3, g3⟩
  have hS2 : Y3.heap[ab]? = some (.cells a.arr 37 (0, 0)) := (g3.block _ (Array.getElem?_eq_some_iff.1 hS).1 (.inr (.inl ⟨_, _, _, hS, rfl⟩))).trans hS
  have H3 : Hid (AcI w0 B c d Y3 (n + 1) (putB S a.t.abs)) := ⟨H2.out.gmR g3, h3⟩
  clear h3 g3 CR
  have hS := hS2
  clear hS2
  refine hK.out _ _ hS (fun _ => ?_)
  clear hK K
  try simp only [List.getElem_toArray, List.getElem_cons_succ, List.getElem_cons_zero, Act.put, List.setIfInBounds_toArray, List.set_cons_zero, List.set_cons_succ]
  refine tk 8 (some 29) (.bool true) rfl rfl (Or.inl ⟨rfl, fun wq hSq => by go_simp⟩) (by decide +kernel) hS ?_
  simp only [Act.put, List.setIfInBounds_toArray, List.set_cons_zero, List.set_cons_succ]
  refine tk 9 (some 6) (.bool true) rfl rfl (Or.inl ⟨rfl, fun wq hSq => by first | rfl | go_simp⟩) (by decide +kernel) hS ?_
  simp only [Act.put, List.setIfInBounds_toArray, List.set_cons_zero, List.set_cons_succ]
  refine wpAnyH_done (by decide +kernel) ?_ _
  refine plain_end ?_
  clear hS
  go_wp2
  go_ret
  exact ⟨rfl, _, H3.out, put_limB _ _⟩
set_option maxRecDepth 100000 in
set_option maxHeartbeats 4000000 in
theorem act_drop {w0 w : World} {B c d n : Nat} {S : Bk} (h : AcI w0 B c d w n S) (hn : n ≤ 1048576) {a : Ac} (ha : AcO w B a) (hd : a.d = 1) :
    Calls Try.prog 11 #[.pointer (some ⟨c, 0, none⟩), .pointer (some ⟨d, 0, none⟩), .agg a.arr] w fun e w' => e = .returned (.bool true) ∧ ∃ S', AcI w0 B c d w' (n + 1) S' ∧ S'.lim = S.lim := by
  have F1 : Fr [] w (w.alloc (.cells a.arr 37)) := (Fr.refl _ _).alloc _
  have hx := heap_alloc_new w (.cells a.arr 37)
  have k0 : (w.alloc (.cells a.arr 37)).cell? ⟨w.heap.size, 0, none⟩ = some (.int .i64 a.d) := at_cells hx 0 a.at_d
  have HI : Hid (AcI w0 B c d (w.alloc (.cells a.arr 37)) n S ∧ TrOk (w.alloc (.cells a.arr 37)) B a.t ∧ ATOk a.t.abs ∧ W64 a.id ∧ W64 a.op ∧ W64 a.to ∧ n ≤ 1048576) := ⟨h.fr0 F1, ha.tr.fr0 F1, ha.at_, ha.id, ha.op, ha.to, hn⟩
  have HX : Hid ((w.alloc (.cells a.arr 37)).heap[w.heap.size]? = some (.cells a.arr 37 (0, 0))) := hx
  clear h ha hn F1 hx
  rw [hd] at k0
  clear hd
  go_enter Try.func11, Try.ntmps11
  go_upto_region 1 with fail
  generalize w.alloc (.cells a.arr 37) = V at *
  generalize w.heap.size = ab at *
  go_upto_region 5 with fail
  clear k0
  have hF : Fr [] V V.drew := (Fr.refl _ _).drew
  have hS : V.drew.heap[ab]? = some (.cells a.arr 37 (0, 0)) := (hF.block _ (Array.getElem?_eq_some_iff.1 HX.out).1 (by simp)).trans HX.out
  have HY : Hid (AcI w0 B c d V.drew n S ∧ TrOk V.drew B a.t) := ⟨HI.out.1.fr0 hF, HI.out.2.1.fr0 hF⟩
  clear hF HX
  refine reg_in (fun w' => w'.heap[ab]? = some (.cells a.arr 37 (0, 0))) ?_
  generalize V.drew = Y at *
  have CP := HY.out.1.aw.drop (by have := HI.out.2.2.2.2.2.2; omega) HI.out.2.2.1.kw
  refine tk 0 (some 32) (.pointer (some ⟨c, 0, none⟩)) rfl rfl (Or.inl ⟨rfl, fun wq hSq => by first | rfl | go_simp⟩) (by decide +kernel) hS ?_
  simp only [Act.put, List.setIfInBounds_toArray, List.set_cons_zero, List.set_cons_succ]
  refine tk 1 (some 33) (.pointer (some ⟨ab, 1, none⟩)) rfl rfl (Or.inl ⟨rfl, fun wq hSq => by first | rfl | go_simp⟩) (by decide +kernel) hS ?_
  simp only [Act.put, List.setIfInBounds_toArray, List.set_cons_zero, List.set_cons_succ]
  refine tk 2 (some 34) (.pointer (some ⟨ab, 1, none⟩)) rfl rfl (Or.inl ⟨rfl, fun wq hSq => by first | rfl | go_simp⟩) (by decide +kernel) hS ?_
  simp only [Act.put, List.setIfInBounds_toArray, List.set_cons_zero, List.set_cons_succ]
  refine tk 3 (some 35) (.agg (kc a.t.k)) rfl rfl ?_ (by decide +kernel) hS ?_
  · exact yieldsIf_load_mid rfl 29 (.tmp 34) rfl ab 1 rfl (kc a.t.k).toList _ (fun wq hSq => Ac.key_range hSq) Try.underlying29 rfl (by rw [info29]; simp [kc_size])
  simp only [Act.put, List.setIfInBounds_toArray, List.set_cons_zero, List.set_cons_succ]
  refine tk 5 (some 37) (.pointer (some ⟨d, 0, none⟩)) rfl rfl (Or.inl ⟨rfl, fun wq hSq => by first | rfl | go_simp⟩) (by decide +kernel) hS ?_
  simp only [Act.put, List.setIfInBounds_toArray, List.set_cons_zero, List.set_cons_succ]
  refine tk 6 (some 38) (.pointer (some ⟨ab, 1, none⟩)) rfl rfl (Or.inl ⟨rfl, fun wq hSq => by first | rfl | go_simp⟩) (by decide +kernel) hS ?_
  simp only [Act.put, List.setIfInBounds_toArray, List.set_cons_zero, List.set_cons_succ]
  refine tk 7 (some 39) (.pointer (some ⟨ab, 1, none⟩)) rfl rfl (Or.inl ⟨rfl, fun wq hSq => by first | rfl | go_simp⟩) (by decide +kernel) hS ?_
  simp only [Act.put, List.setIfInBounds_toArray, List.set_cons_zero, List.set_cons_succ]
  refine tk 8 (some 40) (.agg (kc a.t.k)) rfl rfl ?_ (by decide +kernel) hS ?_
  · exact yieldsIf_load_mid rfl 29 (.tmp 39) rfl ab 1 rfl (kc a.t.k).toList _ (fun wq hSq => Ac.key_range hSq) Try.underlying29 rfl (by rw [info29]; simp [kc_size])
  simp only [Act.put, List.setIfInBounds_toArray, List.set_cons_zero, List.set_cons_succ]
  refine wpAnyH_ready (rs := [4]) (by decide +kernel) (by simp) ?_
  refine AllReadyH.cons rfl (fun K hK => ?_) AllReadyH.nil
  go_simp
  refine CP.mono ?_
  rintro e Y2 ⟨rfl, h2, g2⟩
  have hS2 : Y2.heap[ab]? = some (.cells a.arr 37 (0, 0)) := (g2.block _ (Array.getElem?_eq_some_iff.1 hS).1 (.inr (.inl ⟨_, _, _, hS, rfl⟩))).trans hS
  obtain ⟨rs, hra⟩ := HY.out.1.ra
  have CR := drop_r (hra.gm g2) HY.out.1.aw.ok HI.out.2.2.2.2.2.2 (Nat.le_trans HY.out.1.aw.hi g2.size) HI.out.2.2.1.kw
  have H2 : Hid (AwS w0 B c Y2 (n + 1) (dropB S a.t.k)) := h2.more (by omega)
  clear h2 g2 hra CP
  have hS := hS2
  clear hS2
  refine hK.out _ _ hS (fun _ => ?_)
  clear hK K
  try simp only [List.getElem_toArray, List.getElem_cons_succ, List.getElem_cons_zero, Act.put, List.setIfInBounds_toArray, List.set_cons_zero, List.set_cons_succ]
  refine wpAnyH_ready (rs := [9]) (by decide +kernel) (by simp) ?_
  refine AllReadyH.cons rfl (fun K hK => ?_) AllReadyH.nil
  go_simp
  refine CR.mono ?_
  rintro e Y3 ⟨rfl, h3, g3⟩
  have hS2 : Y3.heap[ab]? = some (.cells a.arr 37 (0, 0)) := (g3.block _ (Array.getElem?_eq_some_iff.1 hS).1 (.inr (.inl ⟨_, _, _, hS, rfl⟩))).trans hS
  have H3 : Hid (AcI w0 B c d Y3 (n + 1) (dropB S a.t.k)) := ⟨H2.out.gmR g3, h3⟩
  clear h3 g3 CR
  have hS := hS2
  clear hS2
  refine hK.out _ _ hS (fun _ => ?_)
  clear hK K
  try simp only [List.getElem_toArray, List.getElem_cons_succ, List.getElem_cons_zero, Act.put, List.setIfInBounds_toArray, List.set_cons_zero, List.set_cons_succ]
  refine tk 10 (some 42) (.bool true) rfl rfl (Or.inl ⟨rfl, fun wq hSq => by go_simp⟩) (by decide +kernel) hS ?_
  simp only [Act.put, List.setIfInBounds_toArray, List.set_cons_zero, List.set_cons_succ]
  refine tk 11 (some 6) (.bool true) rfl rfl (Or.inl ⟨rfl, fun wq hSq => by first | rfl | go_simp⟩) (by decide +kernel) hS ?_
  simp only [Act.put, List.setIfInBounds_toArray, List.set_cons_zero, List.set_cons_succ]
  refine wpAnyH_done (by decide +kernel) ?_ _
  refine plain_end ?_
  clear hS
  go_wp2
  go_ret
  exact ⟨rfl, _, H3.out, drop_lim _ _⟩
set_option maxRecDepth 100000 in
set_option maxHeartbeats 4000000 in
theorem act_fail {w0 w : World} {B c d n : Nat} {S : Bk} (h : AcI w0 B c d w n S) (hn : n ≤ 1048576) {a : Ac} (ha : AcO w B a) (hd : a.d = 2) :
    Calls Try.prog 11 #[.pointer (some ⟨c, 0, none⟩), .pointer (some ⟨d, 0, none⟩), .agg a.arr] w fun e w' => e = .returned (.bool true) ∧ ∃ S', AcI w0 B c d w' (n + 1) S' ∧ S'.lim = S.lim := by
  have F1 : Fr [] w (w.alloc (.cells a.arr 37)) := (Fr.refl _ _).alloc _
  have hx := heap_alloc_new w (.cells a.arr 37)
  have k0 : (w.alloc (.cells a.arr 37)).cell? ⟨w.heap.size, 0, none⟩ = some (.int .i64 a.d) := at_cells hx 0 a.at_d
  have HI : Hid (AcI w0 B c d (w.alloc (.cells a.arr 37)) n S ∧ TrOk (w.alloc (.cells a.arr 37)) B a.t ∧ ATOk a.t.abs ∧ W64 a.id ∧ W64 a.op ∧ W64 a.to ∧ n ≤ 1048576) := ⟨h.fr0 F1, ha.tr.fr0 F1, ha.at_, ha.id, ha.op, ha.to, hn⟩
  have HX : Hid ((w.alloc (.cells a.arr 37)).heap[w.heap.size]? = some (.cells a.arr 37 (0, 0))) := hx
  clear h ha hn F1 hx
  rw [hd] at k0
  clear hd
  go_enter Try.func11, Try.ntmps11
  go_upto_region 1 with fail
  generalize w.alloc (.cells a.arr 37) = V at *
  generalize w.heap.size = ab at *
  go_upto_region 7 with fail
  clear k0
  have hF : Fr [] V V.drew := (Fr.refl _ _).drew
  have hS : V.drew.heap[ab]? = some (.cells a.arr 37 (0, 0)) := (hF.block _ (Array.getElem?_eq_some_iff.1 HX.out).1 (by simp)).trans HX.out
  have HY : Hid (AcI w0 B c d V.drew n S ∧ TrOk V.drew B a.t) := ⟨HI.out.1.fr0 hF, HI.out.2.1.fr0 hF⟩
  clear hF HX
  refine reg_in (fun w' => w'.heap[ab]? = some (.cells a.arr 37 (0, 0))) ?_
  generalize V.drew = Y at *
  have CP := HY.out.1.aw.fail (by have := HI.out.2.2.2.2.2.2; omega) HI.out.2.2.2.1 HI.out.2.2.2.2.1
  refine tk 0 (some 45) (.pointer (some ⟨c, 0, none⟩)) rfl rfl (Or.inl ⟨rfl, fun wq hSq => by first | rfl | go_simp⟩) (by decide +kernel) hS ?_
  simp only [Act.put, List.setIfInBounds_toArray, List.set_cons_zero, List.set_cons_succ]
  refine tk 1 (some 46) (.pointer (some ⟨ab, 18, none⟩)) rfl rfl (Or.inl ⟨rfl, fun wq hSq => by first | rfl | go_simp⟩) (by decide +kernel) hS ?_
  simp only [Act.put, List.setIfInBounds_toArray, List.set_cons_zero, List.set_cons_succ]
  refine tk 2 (some 47) (.int .i64 a.id) rfl rfl (Or.inl ⟨rfl, fun wq hSq => by have q := at_cells hSq 18 a.at_n.1; go_simp⟩) (by decide +kernel) hS ?_
  simp only [Act.put, List.setIfInBounds_toArray, List.set_cons_zero, List.set_cons_succ]
  refine tk 3 (some 48) (.pointer (some ⟨ab, 19, none⟩)) rfl rfl (Or.inl ⟨rfl, fun wq hSq => by first | rfl | go_simp⟩) (by decide +kernel) hS ?_
  simp only [Act.put, List.setIfInBounds_toArray, List.set_cons_zero, List.set_cons_succ]
  refine tk 4 (some 49) (.int .i64 a.op) rfl rfl (Or.inl ⟨rfl, fun wq hSq => by have q := at_cells hSq 19 a.at_n.2.1; go_simp⟩) (by decide +kernel) hS ?_
  simp only [Act.put, List.setIfInBounds_toArray, List.set_cons_zero, List.set_cons_succ]
  refine tk 6 (some 51) (.pointer (some ⟨d, 0, none⟩)) rfl rfl (Or.inl ⟨rfl, fun wq hSq => by first | rfl | go_simp⟩) (by decide +kernel) hS ?_
  simp only [Act.put, List.setIfInBounds_toArray, List.set_cons_zero, List.set_cons_succ]
  refine tk 7 (some 52) (.pointer (some ⟨ab, 18, none⟩)) rfl rfl (Or.inl ⟨rfl, fun wq hSq => by first | rfl | go_simp⟩) (by decide +kernel) hS ?_
  simp only [Act.put, List.setIfInBounds_toArray, List.set_cons_zero, List.set_cons_succ]
  refine tk 8 (some 53) (.int .i64 a.id) rfl rfl (Or.inl ⟨rfl, fun wq hSq => by have q := at_cells hSq 18 a.at_n.1; go_simp⟩) (by decide +kernel) hS ?_
  simp only [Act.put, List.setIfInBounds_toArray, List.set_cons_zero, List.set_cons_succ]
  refine tk 9 (some 54) (.pointer (some ⟨ab, 19, none⟩)) rfl rfl (Or.inl ⟨rfl, fun wq hSq => by first | rfl | go_simp⟩) (by decide +kernel) hS ?_
  simp only [Act.put, List.setIfInBounds_toArray, List.set_cons_zero, List.set_cons_succ]
  refine tk 10 (some 55) (.int .i64 a.op) rfl rfl (Or.inl ⟨rfl, fun wq hSq => by have q := at_cells hSq 19 a.at_n.2.1; go_simp⟩) (by decide +kernel) hS ?_
  simp only [Act.put, List.setIfInBounds_toArray, List.set_cons_zero, List.set_cons_succ]
  refine wpAnyH_ready (rs := [5]) (by decide +kernel) (by simp) ?_
  refine AllReadyH.cons rfl (fun K hK => ?_) AllReadyH.nil
  go_simp
  refine CP.mono ?_
  rintro e Y2 ⟨rfl, h2, g2⟩
  have hS2 : Y2.heap[ab]? = some (.cells a.arr 37 (0, 0)) := (g2.block _ (Array.getElem?_eq_some_iff.1 hS).1 (.inr (.inl ⟨_, _, _, hS, rfl⟩))).trans hS
  obtain ⟨rs, hra⟩ := HY.out.1.ra
  have CR := fail_r (hra.gm g2) HY.out.1.aw.ok HI.out.2.2.2.2.2.2 (Nat.le_trans HY.out.1.aw.hi g2.size) a.id a.op
  have H2 : Hid (AwS w0 B c Y2 (n + 1) (failB S a.id a.op)) := h2
  clear h2 g2 hra CP
  have hS := hS2
  clear hS2
  refine hK.out _ _ hS (fun _ => ?_)
  clear hK K
  try simp only [List.getElem_toArray, List.getElem_cons_succ, List.getElem_cons_zero, Act.put, List.setIfInBounds_toArray, List.set_cons_zero, List.set_cons_succ]
  refine wpAnyH_ready (rs := [11]) (by decide +kernel) (by simp) ?_
  refine AllReadyH.cons rfl (fun K hK => ?_) AllReadyH.nil
  go_simp
  refine CR.mono ?_
  rintro e Y3 ⟨rfl, h3, g3⟩
  have hS2 : Y3.heap[ab]? = some (.cells a.arr 37 (0, 0)) := (g3.block _ (Array.getElem?_eq_some_iff.1 hS).1 (.inr (.inl ⟨_, _, _, hS, rfl⟩))).trans hS
  have H3 : Hid (AcI w0 B c d Y3 (n + 1) (failB S a.id a.op)) := ⟨H2.out.gmR g3, ⟨_, h3⟩⟩
  clear h3 g3 CR
  have hS := hS2
  clear hS2
  refine hK.out _ _ hS (fun _ => ?_)
  clear hK K
  try simp only [List.getElem_toArray, List.getElem_cons_succ, List.getElem_cons_zero, Act.put, List.setIfInBounds_toArray, List.set_cons_zero, List.set_cons_succ]
  refine tk 12 (some 57) (.bool true) rfl rfl (Or.inl ⟨rfl, fun wq hSq => by go_simp⟩) (by decide +kernel) hS ?_
  simp only [Act.put, List.setIfInBounds_toArray, List.set_cons_zero, List.set_cons_succ]
  refine tk 13 (some 6) (.bool true) rfl rfl (Or.inl ⟨rfl, fun wq hSq => by first | rfl | go_simp⟩) (by decide +kernel) hS ?_
  simp only [Act.put, List.setIfInBounds_toArray, List.set_cons_zero, List.set_cons_succ]
  refine wpAnyH_done (by decide +kernel) ?_ _
  refine plain_end ?_
  clear hS
  go_wp2
  go_ret
  exact ⟨rfl, _, H3.out, fail_limB _ _ _⟩
set_option maxRecDepth 100000 in
set_option maxHeartbeats 4000000 in
theorem act_link {w0 w : World} {B c d n : Nat} {S : Bk} (h : AcI w0 B c d w n S) (hn : n ≤ 1048576) {a : Ac} (ha : AcO w B a) (hd : a.d = 3) :
    Calls Try.prog 11 #[.pointer (some ⟨c, 0, none⟩), .pointer (some ⟨d, 0, none⟩), .agg a.arr] w fun e w' => e = .returned (.bool true) ∧ ∃ S', AcI w0 B c d w' (n + 1) S' ∧ S'.lim = S.lim := by
  have F1 : Fr [] w (w.alloc (.cells a.arr 37)) := (Fr.refl _ _).alloc _
  have hx := heap_alloc_new w (.cells a.arr 37)
  have k0 : (w.alloc (.cells a.arr 37)).cell? ⟨w.heap.size, 0, none⟩ = some (.int .i64 a.d) := at_cells hx 0 a.at_d
  have HI : Hid (AcI w0 B c d (w.alloc (.cells a.arr 37)) n S ∧ TrOk (w.alloc (.cells a.arr 37)) B a.t ∧ ATOk a.t.abs ∧ W64 a.id ∧ W64 a.op ∧ W64 a.to ∧ n ≤ 1048576) := ⟨h.fr0 F1, ha.tr.fr0 F1, ha.at_, ha.id, ha.op, ha.to, hn⟩
  have HX : Hid ((w.alloc (.cells a.arr 37)).heap[w.heap.size]? = some (.cells a.arr 37 (0, 0))) := hx
  clear h ha hn F1 hx
  rw [hd] at k0
  clear hd
  go_enter Try.func11, Try.ntmps11
  go_upto_region 1 with fail
  generalize w.alloc (.cells a.arr 37) = V at *
  generalize w.heap.size = ab at *
  go_upto_region 9 with fail
  clear k0
  have hF : Fr [] V V.drew := (Fr.refl _ _).drew
  have hS : V.drew.heap[ab]? = some (.cells a.arr 37 (0, 0)) := (hF.block _ (Array.getElem?_eq_some_iff.1 HX.out).1 (by simp)).trans HX.out
  have HY : Hid (AcI w0 B c d V.drew n S ∧ TrOk V.drew B a.t) := ⟨HI.out.1.fr0 hF, HI.out.2.1.fr0 hF⟩
  clear hF HX
  refine reg_in (fun w' => w'.heap[ab]? = some (.cells a.arr 37 (0, 0))) ?_
  generalize V.drew = Y at *
  have CP := HY.out.1.aw.link (by have := HI.out.2.2.2.2.2.2; omega) HI.out.2.2.2.1 HI.out.2.2.2.2.1 HI.out.2.2.2.2.2.1
  refine tk 0 (some 60) (.pointer (some ⟨c, 0, none⟩)) rfl rfl (Or.inl ⟨rfl, fun wq hSq => by first | rfl | go_simp⟩) (by decide +kernel) hS ?_
  simp only [Act.put, List.setIfInBounds_toArray, List.set_cons_zero, List.set_cons_succ]
  refine tk 1 (some 61) (.pointer (some ⟨ab, 18, none⟩)) rfl rfl (Or.inl ⟨rfl, fun wq hSq => by first | rfl | go_simp⟩) (by decide +kernel) hS ?_
  simp only [Act.put, List.setIfInBounds_toArray, List.set_cons_zero, List.set_cons_succ]
  refine tk 2 (some 62) (.int .i64 a.id) rfl rfl (Or.inl ⟨rfl, fun wq hSq => by have q := at_cells hSq 18 a.at_n.1; go_simp⟩) (by decide +kernel) hS ?_
  simp only [Act.put, List.setIfInBounds_toArray, List.set_cons_zero, List.set_cons_succ]
  refine tk 3 (some 63) (.pointer (some ⟨ab, 19, none⟩)) rfl rfl (Or.inl ⟨rfl, fun wq hSq => by first | rfl | go_simp⟩) (by decide +kernel) hS ?_
  simp only [Act.put, List.setIfInBounds_toArray, List.set_cons_zero, List.set_cons_succ]
  refine tk 4 (some 64) (.int .i64 a.op) rfl rfl (Or.inl ⟨rfl, fun wq hSq => by have q := at_cells hSq 19 a.at_n.2.1; go_simp⟩) (by decide +kernel) hS ?_
  simp only [Act.put, List.setIfInBounds_toArray, List.set_cons_zero, List.set_cons_succ]
  refine tk 5 (some 65) (.pointer (some ⟨ab, 20, none⟩)) rfl rfl (Or.inl ⟨rfl, fun wq hSq => by first | rfl | go_simp⟩) (by decide +kernel) hS ?_
  simp only [Act.put, List.setIfInBounds_toArray, List.set_cons_zero, List.set_cons_succ]
  refine tk 6 (some 66) (.int .i64 a.to) rfl rfl (Or.inl ⟨rfl, fun wq hSq => by have q := at_cells hSq 20 a.at_n.2.2; go_simp⟩) (by decide +kernel) hS ?_
  simp only [Act.put, List.setIfInBounds_toArray, List.set_cons_zero, List.set_cons_succ]
  refine tk 8 (some 68) (.pointer (some ⟨d, 0, none⟩)) rfl rfl (Or.inl ⟨rfl, fun wq hSq => by first | rfl | go_simp⟩) (by decide +kernel) hS ?_
  simp only [Act.put, List.setIfInBounds_toArray, List.set_cons_zero, List.set_cons_succ]
  refine tk 9 (some 69) (.pointer (some ⟨ab, 18, none⟩)) rfl rfl (Or.inl ⟨rfl, fun wq hSq => by first | rfl | go_simp⟩) (by decide +kernel) hS ?_
  simp only [Act.put, List.setIfInBounds_toArray, List.set_cons_zero, List.set_cons_succ]
  refine tk 10 (some 70) (.int .i64 a.id) rfl rfl (Or.inl ⟨rfl, fun wq hSq => by have q := at_cells hSq 18 a.at_n.1; go_simp⟩) (by decide +kernel) hS ?_
  simp only [Act.put, List.setIfInBounds_toArray, List.set_cons_zero, List.set_cons_succ]
  refine tk 11 (some 71) (.pointer (some ⟨ab, 19, none⟩)) rfl rfl (Or.inl ⟨rfl, fun wq hSq => by first | rfl | go_simp⟩) (by decide +kernel) hS ?_
  simp only [Act.put, List.setIfInBounds_toArray, List.set_cons_zero, List.set_cons_succ]
  refine tk 12 (some 72) (.int .i64 a.op) rfl rfl (Or.inl ⟨rfl, fun wq hSq => by have q := at_cells hSq 19 a.at_n.2.1; go_simp⟩) (by decide +kernel) hS ?_
  simp only [Act.put, List.setIfInBounds_toArray, List.set_cons_zero, List.set_cons_succ]
  refine tk 13 (some 73) (.pointer (some ⟨ab, 20, none⟩)) rfl rfl (Or.inl ⟨rfl, fun wq hSq => by first | rfl | go_simp⟩) (by decide +kernel) hS ?_
  simp only [Act.put, List.setIfInBounds_toArray, List.set_cons_zero, List.set_cons_succ]
  refine tk 14 (some 74) (.int .i64 a.to) rfl rfl (Or.inl ⟨rfl, fun wq hSq => by have q := at_cells hSq 20 a.at_n.2.2; go_simp⟩) (by decide +kernel) hS ?_
  simp only [Act.put, List.setIfInBounds_toArray, List.set_cons_zero, List.set_cons_succ]
  refine wpAnyH_ready (rs := [7]) (by decide +kernel) (by simp) ?_
  refine AllReadyH.cons rfl (fun K hK => ?_) AllReadyH.nil
  go_simp
  refine CP.mono ?_
  rintro e Y2 ⟨rfl, h2, g2⟩
  have hS2 : Y2.heap[ab]? = some (.cells a.arr 37 (0, 0)) := (g2.block _ (Array.getElem?_eq_some_iff.1 hS).1 (.inr (.inl ⟨_, _, _, hS, rfl⟩))).trans hS
  obtain ⟨rs, hra⟩ := HY.out.1.ra
  have CR := link_r (hra.gm g2) HY.out.1.aw.ok HI.out.2.2.2.2.2.2 (Nat.le_trans HY.out.1.aw.hi g2.size) a.id a.op a.to
  have H2 : Hid (AwS w0 B c Y2 (n + 1) (linkB S a.id a.op a.to)) := h2
  clear h2 g2 hra CP
  have hS := hS2
  clear hS2
  refine hK.out _ _ hS (fun _ => ?_)
  clear hK K
  try simp only [List.getElem_toArray, List.getElem_cons_succ, List.getElem_cons_zero, Act.put, List.setIfInBounds_toArray, List.set_cons_zero, List.set_cons_succ]
  refine wpAnyH_ready (rs := [15]) (by decide +kernel) (by simp) ?_
  refine AllReadyH.cons rfl (fun K hK => ?_) AllReadyH.nil
  go_simp
  refine CR.mono ?_
  rintro e Y3 ⟨rfl, h3, g3⟩
  have hS2 : Y3.heap[ab]? = some (.cells a.arr 37 (0, 0)) := (g3.block _ (Array.getElem?_eq_some_iff.1 hS).1 (.inr (.inl ⟨_, _, _, hS, rfl⟩))).trans hS
  have H3 : Hid (AcI w0 B c d Y3 (n + 1) (linkB S a.id a.op a.to)) := ⟨H2.out.gmR g3, ⟨_, h3⟩⟩
  clear h3 g3 CR
  have hS := hS2
  clear hS2
  refine hK.out _ _ hS (fun _ => ?_)
  clear hK K
  try simp only [List.getElem_toArray, List.getElem_cons_succ, List.getElem_cons_zero, Act.put, List.setIfInBounds_toArray, List.set_cons_zero, List.set_cons_succ]
  refine tk 16 (some 76) (.bool true) rfl rfl (Or.inl ⟨rfl, fun wq hSq => by go_simp⟩) (by decide +kernel) hS ?_
  simp only [Act.put, List.setIfInBounds_toArray, List.set_cons_zero, List.set_cons_succ]
  refine tk 17 (some 6) (.bool true) rfl rfl (Or.inl ⟨rfl, fun wq hSq => by first | rfl | go_simp⟩) (by decide +kernel) hS ?_
  simp only [Act.put, List.setIfInBounds_toArray, List.set_cons_zero, List.set_cons_succ]
  refine wpAnyH_done (by decide +kernel) ?_ _
  refine plain_end ?_
  clear hS
  go_wp2
  go_ret
  exact ⟨rfl, _, H3.out, link_limB _ _ _ _⟩
set_option maxRecDepth 100000 in
set_option maxHeartbeats 4000000 in
theorem act_linked {w0 w : World} {B c d n : Nat} {S : Bk} (h : AcI w0 B c d w n S) (hn : n ≤ 1048576) {a : Ac} (ha : AcO w B a) (hd : a.d = 4) :
    Calls Try.prog 11 #[.pointer (some ⟨c, 0, none⟩), .pointer (some ⟨d, 0, none⟩), .agg a.arr] w fun e w' => e = .returned (.bool true) ∧ ∃ S', AcI w0 B c d w' (n + 1) S' ∧ S'.lim = S.lim := by
  have F1 : Fr [] w (w.alloc (.cells a.arr 37)) := (Fr.refl _ _).alloc _
  have hx := heap_alloc_new w (.cells a.arr 37)
  have k0 : (w.alloc (.cells a.arr 37)).cell? ⟨w.heap.size, 0, none⟩ = some (.int .i64 a.d) := at_cells hx 0 a.at_d
  have HI : Hid (AcI w0 B c d (w.alloc (.cells a.arr 37)) n S ∧ TrOk (w.alloc (.cells a.arr 37)) B a.t ∧ ATOk a.t.abs ∧ W64 a.id ∧ W64 a.op ∧ W64 a.to ∧ n ≤ 1048576) := ⟨h.fr0 F1, ha.tr.fr0 F1, ha.at_, ha.id, ha.op, ha.to, hn⟩
  have HX : Hid ((w.alloc (.cells a.arr 37)).heap[w.heap.size]? = some (.cells a.arr 37 (0, 0))) := hx
  clear h ha hn F1 hx
  rw [hd] at k0
  clear hd
  have k18 : (w.alloc (.cells a.arr 37)).cell? ⟨w.heap.size, 18, none⟩ = some (.int .i64 a.id) := at_cells HX.out 18 a.at_n.1
  have k19 : (w.alloc (.cells a.arr 37)).cell? ⟨w.heap.size, 19, none⟩ = some (.int .i64 a.op) := at_cells HX.out 19 a.at_n.2.1
  go_enter Try.func11, Try.ntmps11
  go_upto_region 1 with fail
  generalize w.alloc (.cells a.arr 37) = V at *
  generalize w.heap.size = ab at *
  have CP := HI.out.1.aw.linked HI.out.2.2.2.1 HI.out.2.2.2.2.1
  obtain ⟨rs, hra⟩ := HI.out.1.ra
  have HR : Hid (RA V B d rs S) := hra
  clear hra
  go_upto_region 12 with (go_at_call 17; refine CP.mono ?_; rintro e Y2 ⟨rfl, f2⟩; have q18 := f2.cell1 k18 (by simp); have q19 := f2.cell1 k19 (by simp); have CR := linked_r (HR.out.fr0 f2) HI.out.1.aw.ok HI.out.2.2.2.2.2.2 a.id a.op; have H2 := hid (HI.out.1.fr0 f2); clear f2 CP k0 k18 k19)
  go_upto_region 13 with (go_at_call 27; refine CR.mono ?_; rintro e Y3 ⟨rfl, f3⟩; have H3 : Hid (AcI w0 B c d Y3 (n + 1) S) := ⟨(H2.out.aw.fr0 f3).more (by omega), (H2.out.fr0 f3).ra⟩; clear f3 CR q18 q19)
  cases (linksF S.notes a.id a.op) with
  | none =>
    go_wp2
    go_ret
    exact ⟨rfl, _, H3.out, rfl⟩
  | some x =>
    go_wp2
    go_ret
    exact ⟨rfl, _, H3.out, rfl⟩
set_option maxRecDepth 100000 in
set_option maxHeartbeats 4000000 in
theorem act_get {w0 w : World} {B c d n : Nat} {S : Bk} (h : AcI w0 B c d w n S) (hn : n ≤ 1048576) {a : Ac} (ha : AcO w B a) (h0 : a.d ≠ 0) (h1 : a.d ≠ 1) (h2 : a.d ≠ 2) (h3 : a.d ≠ 3) (h4 : a.d ≠ 4) :
    Calls Try.prog 11 #[.pointer (some ⟨c, 0, none⟩), .pointer (some ⟨d, 0, none⟩), .agg a.arr] w fun e w' => e = .returned (.bool true) ∧ ∃ S', AcI w0 B c d w' (n + 1) S' ∧ S'.lim = S.lim := by
  have F1 : Fr [] w (w.alloc (.cells a.arr 37)) := (Fr.refl _ _).alloc _
  have hx := heap_alloc_new w (.cells a.arr 37)
  have k0 : (w.alloc (.cells a.arr 37)).cell? ⟨w.heap.size, 0, none⟩ = some (.int .i64 a.d) := at_cells hx 0 a.at_d
  have HI : Hid (AcI w0 B c d (w.alloc (.cells a.arr 37)) n S ∧ TrOk (w.alloc (.cells a.arr 37)) B a.t ∧ ATOk a.t.abs ∧ W64 a.id ∧ W64 a.op ∧ W64 a.to ∧ n ≤ 1048576) := ⟨h.fr0 F1, ha.tr.fr0 F1, ha.at_, ha.id, ha.op, ha.to, hn⟩
  have HX : Hid ((w.alloc (.cells a.arr 37)).heap[w.heap.size]? = some (.cells a.arr 37 (0, 0))) := hx
  clear h ha hn F1 hx
  have b0 : (a.d == 0) = false := beq_int_false h0
  have b1 : (a.d == 1) = false := beq_int_false h1
  have b2 : (a.d == 2) = false := beq_int_false h2
  have b3 : (a.d == 3) = false := beq_int_false h3
  have b4 : (a.d == 4) = false := beq_int_false h4
  clear h0 h1 h2 h3 h4
  go_enter Try.func11, Try.ntmps11
  go_upto_region 1 with fail
  generalize w.alloc (.cells a.arr 37) = V at *
  generalize w.heap.size = ab at *
  have HK : Hid (∀ w', Fr [] V w' → w'.rangeAt ab 1 (kc a.t.k).toList) := fun w' f => Ac.key_range ((f.block _ (Array.getElem?_eq_some_iff.1 HX.out).1 (by simp)).trans HX.out)
  have F0 : Hid (Fr [] V V) := Fr.refl _ _
  have CP := HI.out.1.aw.get (k := a.t.k) HI.out.2.2.1.kw
  generalize hgo : getB S a.t.k = go at CP
  have HGO : Hid (getB S a.t.k = go) := hgo
  clear hgo
  generalize a.d = ad at *
  go_upto_region 14 with fail
  clear k0 b0 b1 b2 b3 b4
  go_upto_region 15 with (first
    | refine wpList_ld29 rfl (.tmp 112) rfl ab 1 rfl a.t.k (HK.out _ F0.out) ?_
    | (go_at_call 15; refine CP.mono ?_; rintro e w5 ⟨t', rfl, ha', ht', f5⟩; have HA : Hid ((w5.alloc (.cells #[.int .i64 0, .int .i64 0, .int .i64 0, .int .i64 0, .int .i64 0, .int .i64 0, .int .i64 0, .int .i64 0, .int .i64 0, .int .i64 0, .int .i64 0, .int .i64 0, .slice none 0 0, .slice none 0 0, .slice none 0 0, .slice none 0 0, .slice none 0 0] 35)).heap[w5.heap.size]? = some (.cells #[.int .i64 0, .int .i64 0, .int .i64 0, .int .i64 0, .int .i64 0, .int .i64 0, .int .i64 0, .int .i64 0, .int .i64 0, .int .i64 0, .int .i64 0, .int .i64 0, .slice none 0 0, .slice none 0 0, .slice none 0 0, .slice none 0 0, .slice none 0 0] 35 (0, 0))) := heap_alloc_new w5 _; have HQ : Hid (t'.abs = (go.map (·.2)).getD tr0.abs ∧ TrOk w5 B t' ∧ Fr [] V w5) := ⟨ha', ht', f5⟩; clear ha' ht' f5 CP)
    | refine wpList_store_row rfl 35 (.tmp 11) (.tmp 115) rfl w5.heap.size t'.arr rfl rfl 35 _ HA.out (by rw [t'.arr_size]; exact info35) (by rw [t'.arr_size]; rfl) t'.arr_one ?_)
  have FB : Fr [] w5 ((w5.alloc (.cells #[.int .i64 0, .int .i64 0, .int .i64 0, .int .i64 0, .int .i64 0, .int .i64 0, .int .i64 0, .int .i64 0, .int .i64 0, .int .i64 0, .int .i64 0, .int .i64 0, .slice none 0 0, .slice none 0 0, .slice none 0 0, .slice none 0 0, .slice none 0 0] 35)).setRow w5.heap.size t'.arr) := ((Fr.refl [] w5).alloc _).setRow (.inr (Nat.le_refl _)) _
  have HB : Hid (((w5.alloc (.cells #[.int .i64 0, .int .i64 0, .int .i64 0, .int .i64 0, .int .i64 0, .int .i64 0, .int .i64 0, .int .i64 0, .int .i64 0, .int .i64 0, .int .i64 0, .int .i64 0, .slice none 0 0, .slice none 0 0, .slice none 0 0, .slice none 0 0, .slice none 0 0] 35)).setRow w5.heap.size t'.arr).heap[w5.heap.size]? = some (.cells t'.arr 35 (0, 0))) := setRow_heap _ _ _ t'.arr _ _ HA.out
  have HW : Hid (Fr [] V ((w5.alloc (.cells #[.int .i64 0, .int .i64 0, .int .i64 0, .int .i64 0, .int .i64 0, .int .i64 0, .int .i64 0, .int .i64 0, .int .i64 0, .int .i64 0, .int .i64 0, .int .i64 0, .slice none 0 0, .slice none 0 0, .slice none 0 0, .slice none 0 0, .slice none 0 0] 35)).setRow w5.heap.size t'.arr) ∧ TrOk ((w5.alloc (.cells #[.int .i64 0, .int .i64 0, .int .i64 0, .int .i64 0, .int .i64 0, .int .i64 0, .int .i64 0, .int .i64 0, .int .i64 0, .int .i64 0, .int .i64 0, .int .i64 0, .slice none 0 0, .slice none 0 0, .slice none 0 0, .slice none 0 0, .slice none 0 0] 35)).setRow w5.heap.size t'.arr) B t') := ⟨HQ.out.2.2.trans FB, HQ.out.2.1.fr0 FB⟩
  clear FB HA F0
  generalize (w5.alloc (.cells #[.int .i64 0, .int .i64 0, .int .i64 0, .int .i64 0, .int .i64 0, .int .i64 0, .int .i64 0, .int .i64 0, .int .i64 0, .int .i64 0, .int .i64 0, .int .i64 0, .slice none 0 0, .slice none 0 0, .slice none 0 0, .slice none 0 0, .slice none 0 0] 35)).setRow w5.heap.size t'.arr = X at *
  generalize w5.heap.size = bx at *
  obtain ⟨rs, hra⟩ := HI.out.1.ra
  have CR := get_r (hra.fr0 HW.out.1) HI.out.1.aw.ok (Nat.le_trans HI.out.1.aw.hi HW.out.1.size) (k := a.t.k) HI.out.2.2.1.kw
  rw [HGO.out] at CR
  clear hra
  go_upto_region 16 with (first
    | refine wpList_ld29 rfl (.tmp 121) rfl ab 1 rfl a.t.k (HK.out _ HW.out.1) ?_
    | (go_at_call 28; refine CR.mono ?_; rintro e w6 ⟨u', rfl, ha', ht', f6⟩; have HA : Hid ((w6.alloc (.cells #[.int .i64 0, .int .i64 0, .int .i64 0, .int .i64 0, .int .i64 0, .int .i64 0, .int .i64 0, .int .i64 0, .int .i64 0, .int .i64 0, .int .i64 0, .int .i64 0, .slice none 0 0, .slice none 0 0, .slice none 0 0, .slice none 0 0, .slice none 0 0] 35)).heap[w6.heap.size]? = some (.cells #[.int .i64 0, .int .i64 0, .int .i64 0, .int .i64 0, .int .i64 0, .int .i64 0, .int .i64 0, .int .i64 0, .int .i64 0, .int .i64 0, .int .i64 0, .int .i64 0, .slice none 0 0, .slice none 0 0, .slice none 0 0, .slice none 0 0, .slice none 0 0] 35 (0, 0))) := heap_alloc_new w6 _; have HU : Hid (u'.abs = (go.map (·.2)).getD tr0.abs ∧ TrOk w6 B u' ∧ Fr [] X w6) := ⟨ha', ht', f6⟩; clear ha' ht' f6 CR)
    | refine wpList_store_row rfl 35 (.tmp 14) (.tmp 124) rfl w6.heap.size u'.arr rfl rfl 35 _ HA.out (by rw [u'.arr_size]; exact info35) (by rw [u'.arr_size]; rfl) u'.arr_one ?_)
  have FB : Fr [] w6 ((w6.alloc (.cells #[.int .i64 0, .int .i64 0, .int .i64 0, .int .i64 0, .int .i64 0, .int .i64 0, .int .i64 0, .int .i64 0, .int .i64 0, .int .i64 0, .int .i64 0, .int .i64 0, .slice none 0 0, .slice none 0 0, .slice none 0 0, .slice none 0 0, .slice none 0 0] 35)).setRow w6.heap.size u'.arr) := ((Fr.refl [] w6).alloc _).setRow (.inr (Nat.le_refl _)) _
  have FC := HU.out.2.2.trans FB
  have HB2 : Hid (((w6.alloc (.cells #[.int .i64 0, .int .i64 0, .int .i64 0, .int .i64 0, .int .i64 0, .int .i64 0, .int .i64 0, .int .i64 0, .int .i64 0, .int .i64 0, .int .i64 0, .int .i64 0, .slice none 0 0, .slice none 0 0, .slice none 0 0, .slice none 0 0, .slice none 0 0] 35)).setRow w6.heap.size u'.arr).heap[bx]? = some (.cells t'.arr 35 (0, 0))) := (FC.block _ (Array.getElem?_eq_some_iff.1 HB.out).1 (by simp)).trans HB.out
  have HB4 : Hid (((w6.alloc (.cells #[.int .i64 0, .int .i64 0, .int .i64 0, .int .i64 0, .int .i64 0, .int .i64 0, .int .i64 0, .int .i64 0, .int .i64 0, .int .i64 0, .int .i64 0, .int .i64 0, .slice none 0 0, .slice none 0 0, .slice none 0 0, .slice none 0 0, .slice none 0 0] 35)).setRow w6.heap.size u'.arr).heap[w6.heap.size]? = some (.cells u'.arr 35 (0, 0))) := setRow_heap _ _ _ u'.arr _ _ HA.out
  have hat : ATOk t'.abs := by
    rw [HQ.out.1, ← HGO.out]
    unfold getB
    cases e : S.rows.find? (fun r => decide (r.2.k = a.t.k)) with
    | none => exact ofT_at (n := 0) (w64_small (by decide) (by decide))
    | some r => exact HI.out.1.aw.ok.ok r (List.mem_of_find?_eq_some e)
  have CS := same16_any (HW.out.2.fr0 FC) (HU.out.2.1.fr0 FB) (HQ.out.1.trans HU.out.1.symm) hat
  have H4 : Hid (AcI w0 B c d ((w6.alloc (.cells #[.int .i64 0, .int .i64 0, .int .i64 0, .int .i64 0, .int .i64 0, .int .i64 0, .int .i64 0, .int .i64 0, .int .i64 0, .int .i64 0, .int .i64 0, .int .i64 0, .slice none 0 0, .slice none 0 0, .slice none 0 0, .slice none 0 0, .slice none 0 0] 35)).setRow w6.heap.size u'.arr) n S) := HI.out.1.fr0 (HW.out.1.trans FC)
  clear FB FC HA HB hat
  generalize (w6.alloc (.cells #[.int .i64 0, .int .i64 0, .int .i64 0, .int .i64 0, .int .i64 0, .int .i64 0, .int .i64 0, .int .i64 0, .int .i64 0, .int .i64 0, .int .i64 0, .int .i64 0, .slice none 0 0, .slice none 0 0, .slice none 0 0, .slice none 0 0, .slice none 0 0] 35)).setRow w6.heap.size u'.arr = X2 at *
  generalize w6.heap.size = bz at *
  cases go with
  | none =>
    go_wp2_with (first
      | refine wpList_ld35w (by rfl) (.tmp 11) rfl bx rfl t'.arr t'.arr_size HB2.out ?_
      | refine wpList_ld35w (by rfl) (.tmp 14) rfl bz rfl u'.arr u'.arr_size HB4.out ?_
      | (go_at_call 16; refine CS.mono ?_; rintro e w7 ⟨rfl, f7⟩; have H5 : Hid (AcI w0 B c d w7 (n + 1) S) := ⟨(H4.out.aw.fr0 f7).more (by omega), (H4.out.fr0 f7).ra⟩; clear f7 CS))
    go_ret
    exact ⟨rfl, _, H5.out, rfl⟩
  | some r =>
    generalize hr1 : ((some r).map (fun x : Int × AT => x.1)).getD 0 = r1
    clear hr1
    go_wp2_with (first
      | refine wpList_ld35w (by rfl) (.tmp 11) rfl bx rfl t'.arr t'.arr_size HB2.out ?_
      | refine wpList_ld35w (by rfl) (.tmp 14) rfl bz rfl u'.arr u'.arr_size HB4.out ?_
      | (go_at_call 16; refine CS.mono ?_; rintro e w7 ⟨rfl, f7⟩; have H5 : Hid (AcI w0 B c d w7 (n + 1) S) := ⟨(H4.out.aw.fr0 f7).more (by omega), (H4.out.fr0 f7).ra⟩; clear f7 CS))
    go_ret
    exact ⟨rfl, _, H5.out, rfl⟩
theorem act_any {w0 w : World} {B c d n : Nat} {S : Bk} (h : AcI w0 B c d w n S) (hn : n ≤ 1048576) {a : Ac} (ha : AcO w B a) :
    Calls Try.prog 11 #[.pointer (some ⟨c, 0, none⟩), .pointer (some ⟨d, 0, none⟩), .agg a.arr] w fun e w' => e = .returned (.bool true) ∧ ∃ S', AcI w0 B c d w' (n + 1) S' ∧ S'.lim = S.lim := by
  by_cases h0 : a.d = 0
  · exact act_put h hn ha h0
  by_cases h1 : a.d = 1
  · exact act_drop h hn ha h1
  by_cases h2 : a.d = 2
  · exact act_fail h hn ha h2
  by_cases h3 : a.d = 3
  · exact act_link h hn ha h3
  by_cases h4 : a.d = 4
  · exact act_linked h hn ha h4
  exact act_get h hn ha h0 h1 h2 h3 h4
end Go.Proofs.Ytnhjplfdfbbihaa
namespace Go.Proofs.Ytnhjplfdfbbihaa
open Go.RowKit Go.Shelf Go.Maps Go.ChangeShapes Go.WideShapes Go.ChangeAt Go.Deep
set_option linter.unusedVariables false
set_option linter.unusedSimpArgs false
theorem cu23 : Try.prog.underlying 23 = some (.slice 37) := by kernel_rfl
theorem info37 : (Try.prog.info? 37).map (·.size) = some 21 := by kernel_rfl
def AcR (w : World) (a : Ac) : Prop := TrR w a.t ∧ W64 a.id ∧ W64 a.op ∧ W64 a.to
section
variable {H : Type} {enc : TypeId × Value → H} {w : World} {spare : Nat → Bool} {held : Bool} {fuel : Nat} {x : DataW H × List MemPlace}
set_option maxRecDepth 100000 in
theorem read_act {cs : List Value} (h : DataW.trod enc Try.prog w 0 spare held fuel 37 cs = some x) : ∃ a : Ac, cs = a.cl ∧ AcR w a ∧ costT a.t ≤ Rows.uptoBulk x.1 := by
  obtain ⟨xs, n, _, rfl, hl, hlen, hf⟩ := DataW.trod_struct Try.underlying37 h
  rw [cells37] at hl
  match cs, hl, xs, hlen with
  | [v0, v1, v2, v3, v4, v5, v6, v7, v8, v9, v10, v11, v12, v13, v14, v15, v16, v17, v18, v19, v20], _, [y0, y1, y2, y3, y4], _ =>
    have g0 := hf 0 _ rfl
    have g1 := hf 1 _ rfl
    have g2 := hf 2 _ rfl
    have g3 := hf 3 _ rfl
    have g4 := hf 4 _ rfl
    simp [cells3, cells35] at g0 g1 g2 g3 g4
    obtain ⟨d0, e0, _, _⟩ := DataW.trod_int Try.underlying3 g0
    obtain ⟨t, e1, ht, bt⟩ := read_trace g1
    obtain ⟨d2, e2, _, r2⟩ := DataW.trod_int Try.underlying3 g2
    obtain ⟨d3, e3, _, r3⟩ := DataW.trod_int Try.underlying3 g3
    obtain ⟨d4, e4, _, r4⟩ := DataW.trod_int Try.underlying3 g4
    simp at e0 e2 e3 e4
    subst e0 e2 e3 e4
    refine ⟨⟨d0, t, d2, d3, d4⟩, ?_, ⟨ht, r2, r3, r4⟩, ?_⟩
    · show _ = Value.int .i64 d0 :: (t.cl ++ [.int .i64 d2, .int .i64 d3, .int .i64 d4])
      rw [← e1]
      rfl
    · simp only [List.map, Rows.uptoBulk, Rows.uptoBulkAll]
      omega
theorem read_acts {v : Value} (h : DataW.trod enc Try.prog w 0 spare held fuel 23 [v] = some x) : ∃ (a : Option Addr) (cap : Nat) (L : List Ac), v = .slice a L.length cap ∧ (∀ t ∈ L, AcR w t) ∧ LiesAt w Ac.cl 21 a L ∧ (L.map (fun a => costT a.t)).sum + 1 ≤ Rows.uptoBulk x.1 :=
  read_listC (by omega) cu23 cells37 Ac.cl (AcR w) (fun a => costT a.t) (fun t _ => t.cl_len) read_act h
end
theorem Ac.arr_one (a : Ac) : a.arr.all (·.oneCell') = true := by
  rw [Array.all_eq_true_iff_forall_mem]
  intro u hu
  have hu' : u ∈ a.cl := by simpa [Ac.arr] using hu
  rcases List.mem_cons.1 hu' with rfl | h
  · rfl
  rcases List.mem_append.1 h with h | h
  · exact a.t.cl_one u h
  · simp at h
    rcases h with rfl | rfl | rfl <;> rfl
theorem AcR.ok {w : World} {a : Ac} (h : AcR w a) (hc : costT a.t ≤ 1048576) : AcO w w.heap.size a := ⟨h.1.ok hc, h.1.at, h.2.1, h.2.2.1, h.2.2.2⟩
theorem AcO.fr0 {w w' : World} {B : Nat} {a : Ac} (h : AcO w B a) (f : Fr [] w w') : AcO w' B a := ⟨h.tr.fr0 f, h.at_, h.id, h.op, h.to⟩
theorem AcO.low {w : World} {B B' : Nat} {a : Ac} (h : AcO w B a) (hB : B ≤ B') : AcO w B' a := ⟨h.tr.low hB, h.at_, h.id, h.op, h.to⟩
theorem costA_mem {L : List Ac} {t : Ac} (h : t ∈ L) : costT t.t ≤ (L.map (fun a => costT a.t)).sum := by
  induction L with
  | nil => cases h
  | cons x r ih =>
    simp only [List.map_cons, List.sum_cons]
    rcases List.mem_cons.1 h with rfl | h
    · omega
    · have := ih h; omega
theorem costA_len (L : List Ac) : L.length ≤ (L.map (fun a => costT a.t)).sum := by
  induction L with
  | nil => simp
  | cons x r ih => have : 1 ≤ costT x.t := by unfold costT; omega
                   simp only [List.map_cons, List.sum_cons, List.length_cons]; omega
theorem eguardN29 (w : World) (x y : Operand) (a b : Array Value) : (eqGuard .neq 29 x y (.agg a) (.agg b)).run Try.prog w = .ok () w := by
  have : Try.prog.eqGuardType Try.prog.depth 29 = false := by kernel_rfl
  simp [eqGuard, program, this, Sem.run_bind, Sem.run, Result.andThen]
set_option maxRecDepth 100000 in
set_option maxHeartbeats 16000000 in
theorem cacheActs_walk {W : World} (lim : Int) (pa : Option Addr) (pcap : Nat) (pk : List Int) (hps : SL W W.heap.size 3 pa pk.length pcap 1 8 (pk.map (Value.int .i64))) (hpw : ∀ x ∈ pk, W64 x) (a : Option Addr) (cap : Nat) (l : List Ac) (hll : l.length ≤ 1048576) (hl : LiesAt W Ac.cl 21 a l) (hr : ∀ t ∈ l, AcO W W.heap.size t) : Calls Try.prog 3 #[.int .i64 lim, .slice pa pk.length pcap, .slice a l.length cap] W fun e W' => e = .returned (.bool true) ∧ Fr [] W W' := by
  have CA0 := awake_any W
  have HL : Hid (LiesAt W Ac.cl 21 a l ∧ (∀ t ∈ l, AcO W W.heap.size t) ∧ l.length ≤ 1048576 ∧ SL W W.heap.size 3 pa pk.length pcap 1 8 (pk.map (Value.int .i64)) ∧ ∀ x ∈ pk, W64 x) := ⟨hl, hr, hll, hps, hpw⟩
  have HA0 : Hid (a = none → l.length = 0) := fun e => by
    cases l with
    | nil => rfl
    | cons t r => obtain ⟨b, o, e1, _⟩ := hl 0 t rfl; rw [e] at e1; cases e1
  have hllI : (l.length : Int) ≤ 1048576 := by omega
  clear hl hr hll hps hpw
  go_enter Try.func3, Try.ntmps3
  go_wp2_with (go_at_call 7; refine CA0.mono ?_; rintro e w2 ⟨rfl, f2⟩; have HF2 : Hid (Fr [] W w2) := f2; clear f2 CA0)
  go_loopw [7, 22] (fun m i wr => ∃ (m1 : Int) (p : Nat), p ≤ l.length ∧ m = .int .i64 m1 ∧ i = .int .i64 p ∧ Hid (Fr [] W wr)) (fun _ i _ => l.length - (intOf i).toNat)
  case atStart => exact ⟨_, 0, Nat.zero_le _, rfl, rfl, HF2⟩
  case round =>
    obtain ⟨m1, p, hp, rfl, rfl, F⟩ := hrel
    clear HF2
    by_cases hlt : p < l.length
    · have hpI : (p : Int) < l.length := by omega
      obtain ⟨q, hq⟩ : ∃ t, l[p]? = some t := ⟨_, List.getElem?_eq_getElem hlt⟩
      obtain ⟨b, o, rfl, hbl, hc⟩ := (HL.out.1.fr F.out) p q hq
      have RT : Hid (wr.rangeAt b (o + p * 21) q.cl) := hc
      have HA : Hid ((wr.alloc (.cells #[.int .i64 0, .int .i64 0, .int .i64 0, .int .i64 0, .int .i64 0, .int .i64 0, .int .i64 0, .int .i64 0, .int .i64 0, .int .i64 0, .int .i64 0, .int .i64 0, .int .i64 0, .slice none 0 0, .slice none 0 0, .slice none 0 0, .slice none 0 0, .slice none 0 0, .int .i64 0, .int .i64 0, .int .i64 0] 37)).heap[wr.heap.size]? = some (.cells #[.int .i64 0, .int .i64 0, .int .i64 0, .int .i64 0, .int .i64 0, .int .i64 0, .int .i64 0, .int .i64 0, .int .i64 0, .int .i64 0, .int .i64 0, .int .i64 0, .int .i64 0, .slice none 0 0, .slice none 0 0, .slice none 0 0, .slice none 0 0, .slice none 0 0, .int .i64 0, .int .i64 0, .int .i64 0] 37 (0, 0))) := heap_alloc_new wr _
      have HB : Hid (((wr.alloc (.cells #[.int .i64 0, .int .i64 0, .int .i64 0, .int .i64 0, .int .i64 0, .int .i64 0, .int .i64 0, .int .i64 0, .int .i64 0, .int .i64 0, .int .i64 0, .int .i64 0, .int .i64 0, .slice none 0 0, .slice none 0 0, .slice none 0 0, .slice none 0 0, .slice none 0 0, .int .i64 0, .int .i64 0, .int .i64 0] 37)).setRow wr.heap.size q.arr).heap[wr.heap.size]? = some (.cells q.arr 37 (0, 0))) := setRow_heap _ _ _ q.arr _ _ HA.out
      have HF : Hid (Fr [] W ((wr.alloc (.cells #[.int .i64 0, .int .i64 0, .int .i64 0, .int .i64 0, .int .i64 0, .int .i64 0, .int .i64 0, .int .i64 0, .int .i64 0, .int .i64 0, .int .i64 0, .int .i64 0, .int .i64 0, .slice none 0 0, .slice none 0 0, .slice none 0 0, .slice none 0 0, .slice none 0 0, .int .i64 0, .int .i64 0, .int .i64 0] 37)).setRow wr.heap.size q.arr)) := F.out.trans (((Fr.refl [] wr).alloc _).setRow (.inr (Nat.le_refl _)) _)
      have hto := (HL.out.2.1 q (List.mem_of_getElem? hq)).tr
      have CS := size_any (hto.fr0 HF.out)
      clear hbl hc hto hq F
      go_upto_region 7 with (first
        | refine wpList_load_mid rfl 37 (.tmp 24) rfl b (o + p * 21) rfl q.cl _ RT.out Try.underlying37 rfl (by rw [Ac.cl_len]; exact info37) ?_
        | refine wpList_store_row rfl 37 (.tmp 9) (.tmp 25) rfl wr.heap.size q.arr rfl rfl 37 _ HA.out (by rw [q.arr_size]; exact info37) (by rw [q.arr_size]; rfl) q.arr_one ?_)
      generalize (wr.alloc (.cells #[.int .i64 0, .int .i64 0, .int .i64 0, .int .i64 0, .int .i64 0, .int .i64 0, .int .i64 0, .int .i64 0, .int .i64 0, .int .i64 0, .int .i64 0, .int .i64 0, .int .i64 0, .slice none 0 0, .slice none 0 0, .slice none 0 0, .slice none 0 0, .slice none 0 0, .int .i64 0, .int .i64 0, .int .i64 0] 37)).setRow wr.heap.size q.arr = V at *
      generalize wr.heap.size = bx at *
      have RB : Hid (V.rangeAt bx 1 q.t.cl) := Ac.range HB.out
      clear HB HA
      go_wp2_with (first
        | refine wpList_load_mid rfl 35 (.tmp 27) rfl bx 1 rfl q.t.cl _ RB.out Try.underlying35 rfl (by rw [Tr.cl_len]; exact info35) ?_
        | (go_at_call 8; refine CS.mono ?_; rintro e w5 ⟨sz, rfl, f5⟩; have HF5 := hid (HF.out.trans f5); clear f5 HF CS))
      clear RT RB
      go_roundw
      case rel => exact ⟨_, p + 1, hlt, rfl, by go_num, HF5⟩
      case measure => simp [intOf]; omega
    · obtain rfl : p = l.length := by omega
      by_cases h2 : 3000 < m1
      · go_wp2
        go_ret
        exact ⟨rfl, F.out⟩
      · have CN := AwS.new (w := wr) lim ((HL.out.2.2.2.1.fr F.out (Away.nil _ _)).low F.out.size) HL.out.2.2.2.2
        go_upto_region 11 with fail
        go_wp2_with (first
          | (go_at_call 9; refine CN.mono ?_; rintro e w3 ⟨c, rfl, h3⟩; have CR := rnew_any h3.hi lim (((HL.out.2.2.2.1.fr F.out (Away.nil _ _)).low F.out.size).fr h3.fr (Away.nil _ _)); have H3 := hid h3; clear h3 CN)
          | (go_at_call 10; refine CR.mono ?_; rintro e w4 ⟨d, rfl, hr4, f4⟩; have H4 : Hid (AcI wr wr.heap.size c d w4 0 ⟨limP lim, pk, [], [], 0, 0⟩) := ⟨H3.out.fr0 f4, ⟨[], hr4⟩⟩; clear hr4 f4 CR H3))
        obtain ⟨w0, hw0⟩ : ∃ w0, w0 = wr := ⟨_, rfl⟩
        subst hw0
        go_loopw [45] (fun i wq => ∃ (p : Nat) (S : Bk), p ≤ l.length ∧ i = .int .i64 p ∧ Hid (AcI w0 w0.heap.size c d wq p S ∧ S.lim = limP lim)) (fun i _ => l.length - (intOf i).toNat)
        case atStart => exact ⟨0, _, Nat.zero_le _, rfl, H4.out, rfl⟩
        case round =>
          obtain ⟨p, S, hp, rfl, I⟩ := hrel
          clear H4
          by_cases hlt : p < l.length
          · have hpI : (p : Int) < l.length := by omega
            obtain ⟨q, hq⟩ : ∃ t, l[p]? = some t := ⟨_, List.getElem?_eq_getElem hlt⟩
            obtain ⟨b, o, rfl, hbl, hc⟩ := (HL.out.1.fr (F.out.trans I.out.1.aw.fr)) p q hq
            have RT : Hid (wr.rangeAt b (o + p * 21) q.cl) := hc
            have HA : Hid ((wr.alloc (.cells #[.int .i64 0, .int .i64 0, .int .i64 0, .int .i64 0, .int .i64 0, .int .i64 0, .int .i64 0, .int .i64 0, .int .i64 0, .int .i64 0, .int .i64 0, .int .i64 0, .int .i64 0, .slice none 0 0, .slice none 0 0, .slice none 0 0, .slice none 0 0, .slice none 0 0, .int .i64 0, .int .i64 0, .int .i64 0] 37)).heap[wr.heap.size]? = some (.cells #[.int .i64 0, .int .i64 0, .int .i64 0, .int .i64 0, .int .i64 0, .int .i64 0, .int .i64 0, .int .i64 0, .int .i64 0, .int .i64 0, .int .i64 0, .int .i64 0, .int .i64 0, .slice none 0 0, .slice none 0 0, .slice none 0 0, .slice none 0 0, .slice none 0 0, .int .i64 0, .int .i64 0, .int .i64 0] 37 (0, 0))) := heap_alloc_new wr _
            have HB : Hid (((wr.alloc (.cells #[.int .i64 0, .int .i64 0, .int .i64 0, .int .i64 0, .int .i64 0, .int .i64 0, .int .i64 0, .int .i64 0, .int .i64 0, .int .i64 0, .int .i64 0, .int .i64 0, .int .i64 0, .slice none 0 0, .slice none 0 0, .slice none 0 0, .slice none 0 0, .slice none 0 0, .int .i64 0, .int .i64 0, .int .i64 0] 37)).setRow wr.heap.size q.arr).heap[wr.heap.size]? = some (.cells q.arr 37 (0, 0))) := setRow_heap _ _ _ q.arr _ _ HA.out
            have FB : Fr [] wr ((wr.alloc (.cells #[.int .i64 0, .int .i64 0, .int .i64 0, .int .i64 0, .int .i64 0, .int .i64 0, .int .i64 0, .int .i64 0, .int .i64 0, .int .i64 0, .int .i64 0, .int .i64 0, .int .i64 0, .slice none 0 0, .slice none 0 0, .slice none 0 0, .slice none 0 0, .slice none 0 0, .int .i64 0, .int .i64 0, .int .i64 0] 37)).setRow wr.heap.size q.arr) := ((Fr.refl [] wr).alloc _).setRow (.inr (Nat.le_refl _)) _
            have I1 : Hid (AcI w0 w0.heap.size c d ((wr.alloc (.cells #[.int .i64 0, .int .i64 0, .int .i64 0, .int .i64 0, .int .i64 0, .int .i64 0, .int .i64 0, .int .i64 0, .int .i64 0, .int .i64 0, .int .i64 0, .int .i64 0, .int .i64 0, .slice none 0 0, .slice none 0 0, .slice none 0 0, .slice none 0 0, .slice none 0 0, .int .i64 0, .int .i64 0, .int .i64 0] 37)).setRow wr.heap.size q.arr) p S ∧ S.lim = limP lim) := ⟨I.out.1.fr0 FB, I.out.2⟩
            have HO : Hid (AcO ((wr.alloc (.cells #[.int .i64 0, .int .i64 0, .int .i64 0, .int .i64 0, .int .i64 0, .int .i64 0, .int .i64 0, .int .i64 0, .int .i64 0, .int .i64 0, .int .i64 0, .int .i64 0, .int .i64 0, .slice none 0 0, .slice none 0 0, .slice none 0 0, .slice none 0 0, .slice none 0 0, .int .i64 0, .int .i64 0, .int .i64 0] 37)).setRow wr.heap.size q.arr) w0.heap.size q) := ((((HL.out.2.1 q (List.mem_of_getElem? hq)).fr0 F.out).low F.out.size).fr0 I.out.1.aw.fr).fr0 FB
            clear hbl hc hq FB I
            go_upto_region 17 with (first
              | refine wpList_load_mid rfl 37 (.tmp 47) rfl b (o + p * 21) rfl q.cl _ RT.out Try.underlying37 rfl (by rw [Ac.cl_len]; exact info37) ?_
              | refine wpList_store_row rfl 37 (.tmp 13) (.tmp 48) rfl wr.heap.size q.arr rfl rfl 37 _ HA.out (by rw [q.arr_size]; exact info37) (by rw [q.arr_size]; rfl) q.arr_one ?_)
            clear HA RT
            generalize (wr.alloc (.cells #[.int .i64 0, .int .i64 0, .int .i64 0, .int .i64 0, .int .i64 0, .int .i64 0, .int .i64 0, .int .i64 0, .int .i64 0, .int .i64 0, .int .i64 0, .int .i64 0, .int .i64 0, .slice none 0 0, .slice none 0 0, .slice none 0 0, .slice none 0 0, .slice none 0 0, .int .i64 0, .int .i64 0, .int .i64 0] 37)).setRow wr.heap.size q.arr = V at *
            generalize wr.heap.size = bx at *
            have hF : Fr [] V V.drew := (Fr.refl _ _).drew
            have HB2 : Hid (V.drew.heap[bx]? = some (.cells q.arr 37 (0, 0))) := (hF.block _ (Array.getElem?_eq_some_iff.1 HB.out).1 (by simp)).trans HB.out
            have I2 : Hid (AcI w0 w0.heap.size c d V.drew p S ∧ S.lim = limP lim) := ⟨I1.out.1.fr0 hF, I1.out.2⟩
            have HO2 : Hid (AcO V.drew w0.heap.size q) := HO.out.fr0 hF
            clear hF HB I1 HO
            refine reg_in (fun w' => True) ?_
            have hS : True := trivial
            generalize V.drew = Y at *
            have CA := act_any I2.out.1 (by have := HL.out.2.2.1; omega) HO2.out
            refine tk 0 (some 49) (.pointer (some ⟨c, 0, none⟩)) rfl rfl (Or.inl ⟨rfl, fun wq hSq => by first | rfl | go_simp⟩) (by decide +kernel) hS ?_
            simp only [Act.put, List.setIfInBounds_toArray, List.set_cons_zero, List.set_cons_succ]
            refine tk 1 (some 50) (.pointer (some ⟨d, 0, none⟩)) rfl rfl (Or.inl ⟨rfl, fun wq hSq => by first | rfl | go_simp⟩) (by decide +kernel) hS ?_
            simp only [Act.put, List.setIfInBounds_toArray, List.set_cons_zero, List.set_cons_succ]
            refine wpAnyH_ready (rs := [2]) (by decide +kernel) (by simp) ?_
            refine AllReadyH.cons rfl (fun K hK => ?_) AllReadyH.nil
            refine wp_load_row 37 (.tmp 13) rfl bx rfl 37 q.arr (0, 0) _ HB2.out Try.underlying37 rfl (by rw [q.arr_size]; exact info37) ?_
            refine hK.out _ _ hS (fun _ => ?_)
            clear HB2
            clear hK K
            try simp only [List.getElem_toArray, List.getElem_cons_succ, List.getElem_cons_zero, Act.put, List.setIfInBounds_toArray, List.set_cons_zero, List.set_cons_succ]
            refine wpAnyH_ready (rs := [3]) (by decide +kernel) (by simp) ?_
            refine AllReadyH.cons rfl (fun K hK => ?_) AllReadyH.nil
            go_simp
            refine CA.mono ?_
            rintro e Y2 ⟨rfl, S', h2, hl2⟩
            have HC : Hid (AcI w0 w0.heap.size c d Y2 (p + 1) S' ∧ S'.lim = limP lim) := ⟨h2, hl2.trans I2.out.2⟩
            have CM := h2.aw.most
            clear h2 hl2 CA I2 HO2
            refine hK.out _ _ hS (fun _ => ?_)
            clear hK K
            try simp only [List.getElem_toArray, List.getElem_cons_succ, List.getElem_cons_zero, Act.put, List.setIfInBounds_toArray, List.set_cons_zero, List.set_cons_succ]
            refine tk 4 (some 53) (.bool false) rfl rfl (Or.inl ⟨rfl, fun wq hSq => by go_simp⟩) (by decide +kernel) hS ?_
            simp only [Act.put, List.setIfInBounds_toArray, List.set_cons_zero, List.set_cons_succ]
            refine tk 5 (some 54) (.bool false) rfl rfl (Or.inl ⟨rfl, fun wq hSq => by first | rfl | go_simp⟩) (by decide +kernel) hS ?_
            simp only [Act.put, List.setIfInBounds_toArray, List.set_cons_zero, List.set_cons_succ]
            refine tk 6 (some 55) (.pointer (some ⟨c, 0, none⟩)) rfl rfl (Or.inl ⟨rfl, fun wq hSq => by first | rfl | go_simp⟩) (by decide +kernel) hS ?_
            simp only [Act.put, List.setIfInBounds_toArray, List.set_cons_zero, List.set_cons_succ]
            refine tk 8 (some 57) (.pointer (some ⟨d, 0, none⟩)) rfl rfl (Or.inl ⟨rfl, fun wq hSq => by first | rfl | go_simp⟩) (by decide +kernel) hS ?_
            simp only [Act.put, List.setIfInBounds_toArray, List.set_cons_zero, List.set_cons_succ]
            refine tk 9 (some 58) (.pointer (some ⟨d, 0, none⟩)) rfl rfl (Or.inl ⟨rfl, fun wq hSq => by first | rfl | go_simp⟩) (by decide +kernel) hS ?_
            simp only [Act.put, List.setIfInBounds_toArray, List.set_cons_zero, List.set_cons_succ]
            refine tk 10 (some 59) (.pointer (some ⟨d, 6, none⟩)) rfl rfl (Or.inl ⟨rfl, fun wq hSq => by first | rfl | go_simp⟩) (by decide +kernel) hS ?_
            simp only [Act.put, List.setIfInBounds_toArray, List.set_cons_zero, List.set_cons_succ]
            refine wpAnyH_ready (rs := [7, 11]) (by decide +kernel) (by simp) ?_
            refine AllReadyH.cons rfl (fun K hK => ?_) ?_
            · skip
              rw [if_pos (by rfl)]
              go_simp
              refine CM.mono ?_
              rintro e Y3 ⟨rfl, f3⟩
              have HC3 : Hid (AcI w0 w0.heap.size c d Y3 (p + 1) S' ∧ S'.lim = limP lim) := ⟨HC.out.1.fr0 f3, HC.out.2⟩
              clear f3 CM HC
              have HC := HC3
              clear HC3
              refine hK.out _ _ hS (fun _ => ?_)
              clear hK K
              try simp only [List.getElem_toArray, List.getElem_cons_succ, List.getElem_cons_zero, Act.put, List.setIfInBounds_toArray, List.set_cons_zero, List.set_cons_succ]
              refine wpAnyH_ready (rs := [11]) (by decide +kernel) (by simp) ?_
              refine AllReadyH.cons rfl (fun K hK => ?_) AllReadyH.nil
              rw [if_pos (by rfl)]
              obtain ⟨rs', hra⟩ := HC.out.1.ra
              obtain ⟨_, _, _, _, _, _, hpp, _⟩ := hra.ex
              have qq := at_cells hpp.blk 6 rfl
              go_simp
              clear qq hpp hra
              refine hK.out _ _ hS (fun _ => ?_)
              clear hK K
              try simp only [List.getElem_toArray, List.getElem_cons_succ, List.getElem_cons_zero, Act.put, List.setIfInBounds_toArray, List.set_cons_zero, List.set_cons_succ]
              refine tk 12 (some 61) (.bool false) rfl rfl (Or.inl ⟨rfl, fun wq hSq => by go_simp⟩) (by decide +kernel) hS ?_
              simp only [Act.put, List.setIfInBounds_toArray, List.set_cons_zero, List.set_cons_succ]
              refine tk 13 (some 62) (.bool false) rfl rfl (Or.inl ⟨rfl, fun wq hSq => by go_simp⟩) (by decide +kernel) hS ?_
              simp only [Act.put, List.setIfInBounds_toArray, List.set_cons_zero, List.set_cons_succ]
              refine wpAnyH_done (by decide +kernel) ?_ _
              refine plain_end ?_
              clear hS
              have CK := HC.out.1.aw.keys
              obtain ⟨rs, hra⟩ := HC.out.1.ra
              have hN2 : rs.length = S'.rows.length := rs_len2 hra.abs
              have hkr : rs.map (fun r => r.2.k) = S'.rows.map (fun r => r.2.k) := by rw [← hra.abs, List.map_map]; rfl
              obtain ⟨rv, nv, pa', pcap', pf, used, hpp, _, _⟩ := hra.ex
              obtain ⟨ra, rcap, rfl, hrn⟩ := own_slice hpp.rows
              have kd0 := at_cells hpp.blk 0 rfl
              have hkw := keys_kw HC.out.1.aw.ok
              obtain ⟨M, hM⟩ : ∃ M, max lim 0 = M := ⟨_, rfl⟩
              have hNM : (S'.rows.length : Int) ≤ M := by have h1 := HC.out.1.aw.ok.len; rw [HC.out.2] at h1; unfold limP at h1; omega
              have hN1 : S'.rows.length ≤ 1000 := by have h1 := HC.out.1.aw.ok.len; have h2 := HC.out.1.aw.ok.lim; omega
              have hR := hpp.rows
              have HKL : Hid (∀ (i : Nat) (x : Ky), (S'.rows.map (fun r => r.2.k))[i]? = some x → kw x ∧ ∃ y, rs[i]? = some y ∧ y.2.k = x) := fun i x hx => ⟨hkw x (List.mem_of_getElem? hx), by rw [← hkr, List.getElem?_map] at hx; cases e : rs[i]? with | none => rw [e] at hx; cases hx | some y => rw [e] at hx; exact ⟨y, rfl, Option.some.inj hx⟩⟩
              have hKN : (S'.rows.map (fun r => r.2.k)).length = S'.rows.length := List.length_map _
              clear hpp hra hkw hkr
              generalize S'.rows.map (fun r => r.2.k) = KL at *
              rw [hN2] at kd0
              rw [show S'.rows.length = KL.length from hKN.symm] at CK kd0 hNM hN1 hN2
              have HR : Hid (rs.length = KL.length) := hN2
              clear hKN hN2
              have HRR := hid hR
              clear hR
              have HN1 : Hid (KL.length ≤ 1000) := hN1
              have hN1I : (KL.length : Int) ≤ 1000 := by omega
              clear hN1
              go_wp2_with (go_at_call 13; refine CK.mono ?_; rintro e Y4 ⟨ka, kcap, rfl, ho4, f4⟩; have HO4 : Hid (Y4.ownsRow Y3.heap.size 29 10 (.slice ka KL.length kcap) KL.length (flatKy KL)) := ho4; have kd1 := f4.cell1 kd0 (by simp); have HC4 : Hid ((AcI w0 w0.heap.size c d Y4 (p + 1) S' ∧ S'.lim = limP lim) ∧ Y4.ownsRow w0.heap.size 52 18 (.slice ra rs.length rcap) rs.length (flatR rs)) := ⟨⟨HC.out.1.fr0 f4, HC.out.2⟩, own_fr HRR.out f4 (by simp)⟩; clear ho4 f4 CK kd0 HC HRR)
              go_loopw [82] (fun i wz => ∃ r : Nat, r ≤ KL.length ∧ i = .int .i64 r ∧ Hid (Fr [] Y4 wz)) (fun i _ => KL.length - (intOf i).toNat)
              case atStart => exact ⟨0, Nat.zero_le _, rfl, Fr.refl _ _⟩
              case round =>
                obtain ⟨r, hr, rfl, G⟩ := hrel
                by_cases hrt : r < KL.length
                · have hrI : (r : Int) < KL.length := by omega
                  obtain ⟨x, hx⟩ : ∃ x, KL[r]? = some x := ⟨_, List.getElem?_eq_getElem hrt⟩
                  obtain ⟨hkx, y, hy, hyx⟩ := HKL.out r x hx
                  obtain ⟨g, rfl⟩ : ∃ g, ka = some ⟨g, 0, none⟩ := by
                    obtain ⟨g, c', e1, _⟩ := own_cells HO4.out (j := r * 10) (List.getElem?_eq_getElem (by rw [flatKy_len]; omega))
                    cases e1; exact ⟨g, rfl⟩
                  obtain ⟨g2, rfl⟩ : ∃ g, ra = some ⟨g, 0, none⟩ := by
                    obtain ⟨g, c', e1, _⟩ := own_cells HC4.out.2 (j := r * 18) (List.getElem?_eq_getElem (by rw [flatR_len]; have := HR.out; omega))
                    cases e1; exact ⟨g, rfl⟩
                  have hcap : (r : Int) ≤ kcap := by
                    rcases HO4.out.2 with ⟨e1, _⟩ | ⟨g', cp, cur, e1, _, _, h3, _⟩
                    · cases e1
                    · cases e1; omega
                  have hcap2 : (r : Int) ≤ rcap := by
                    rcases HC4.out.2.2 with ⟨e1, _⟩ | ⟨g', cp, cur, e1, _, _, h3, _⟩
                    · cases e1
                    · cases e1; have := HR.out; omega
                  have RX : Hid (∀ w', Fr [] wr w' → w'.rangeAt g (r * 10) (kc x).toList) := fun w' f => rowK_at (own_fr HO4.out (G.out.trans f) (by simp)) hx
                  have RY : Hid (∀ w', Fr [] wr w' → w'.rangeAt g2 (r * 18 + 1) (kc x).toList) := fun w' f j v hv => by
                    have h1 := tr_rangeR (rowR_at (own_fr HC4.out.2 (G.out.trans f) (by simp)) hy)
                    refine h1 j v ?_
                    rw [← hyx] at hv
                    have hj : j < 10 := by have := (List.getElem?_eq_some_iff.1 hv).1; rw [kcl_len] at this; exact this
                    rw [Tr.cl, List.getElem?_append_left (by simp [kl0_len]; exact hj)]
                    simpa [kc] using hv
                  have kd2 := G.out.cell1 kd1 (by simp)
                  have RV : Hid (∀ w', Fr [] wr w' → w'.cell? ⟨d, 0, none⟩ = some (.slice (some ⟨g2, 0, none⟩) KL.length rcap)) := fun w' f => f.cell1 kd2 (by simp)
                  have HK : Hid (kw x) := hkx
                  clear hkx hy hyx hx kd2
                  go_upto_region 25 with fail
                  refine reg_in (fun w' => Fr [] wr w') ?_
                  have hS : Fr [] wr wr.drew := (Fr.refl _ _).drew
                  generalize wr.drew = Z at *
                  refine tk 0 (some 85) (.slice (some ⟨g, 0, none⟩) KL.length kcap) rfl rfl (Or.inl ⟨rfl, fun wq hSq => by first | rfl | go_simp⟩) (by decide +kernel) hS ?_
                  simp only [Act.put, List.setIfInBounds_toArray, List.set_cons_zero, List.set_cons_succ]
                  refine tk 1 (some 86) (.int .i64 r) rfl rfl (Or.inl ⟨rfl, fun wq hSq => by first | rfl | go_simp⟩) (by decide +kernel) hS ?_
                  simp only [Act.put, List.setIfInBounds_toArray, List.set_cons_zero, List.set_cons_succ]
                  refine tk 2 (some 87) (.pointer (some ⟨g, r * 10, none⟩)) rfl rfl (Or.inl ⟨rfl, fun wq hSq => by go_simp⟩) (by decide +kernel) hS ?_
                  simp only [Act.put, List.setIfInBounds_toArray, List.set_cons_zero, List.set_cons_succ]
                  refine tk 3 (some 88) (.agg (kc x)) rfl rfl ?_ (by decide +kernel) hS ?_
                  · exact yieldsIf_load_mid rfl 29 (.tmp 87) rfl g (r * 10) rfl (kc x).toList _ (fun wq hSq => RX.out wq hSq) Try.underlying29 rfl (by rw [info29]; simp [kc_size])
                  simp only [Act.put, List.setIfInBounds_toArray, List.set_cons_zero, List.set_cons_succ]
                  refine tk 4 (some 89) (.pointer (some ⟨d, 0, none⟩)) rfl rfl (Or.inl ⟨rfl, fun wq hSq => by first | rfl | go_simp⟩) (by decide +kernel) hS ?_
                  simp only [Act.put, List.setIfInBounds_toArray, List.set_cons_zero, List.set_cons_succ]
                  refine tk 5 (some 90) (.pointer (some ⟨d, 0, none⟩)) rfl rfl (Or.inl ⟨rfl, fun wq hSq => by first | rfl | go_simp⟩) (by decide +kernel) hS ?_
                  simp only [Act.put, List.setIfInBounds_toArray, List.set_cons_zero, List.set_cons_succ]
                  refine tk 6 (some 91) (.pointer (some ⟨d, 0, none⟩)) rfl rfl (Or.inl ⟨rfl, fun wq hSq => by first | rfl | go_simp⟩) (by decide +kernel) hS ?_
                  simp only [Act.put, List.setIfInBounds_toArray, List.set_cons_zero, List.set_cons_succ]
                  refine tk 7 (some 92) (.slice (some ⟨g2, 0, none⟩) KL.length rcap) rfl rfl (Or.inl ⟨rfl, fun wq hSq => by have q := RV.out wq hSq; go_simp⟩) (by decide +kernel) hS ?_
                  simp only [Act.put, List.setIfInBounds_toArray, List.set_cons_zero, List.set_cons_succ]
                  refine tk 8 (some 93) (.int .i64 r) rfl rfl (Or.inl ⟨rfl, fun wq hSq => by first | rfl | go_simp⟩) (by decide +kernel) hS ?_
                  simp only [Act.put, List.setIfInBounds_toArray, List.set_cons_zero, List.set_cons_succ]
                  refine tk 9 (some 94) (.pointer (some ⟨g2, r * 18, none⟩)) rfl rfl (Or.inl ⟨rfl, fun wq hSq => by go_simp⟩) (by decide +kernel) hS ?_
                  simp only [Act.put, List.setIfInBounds_toArray, List.set_cons_zero, List.set_cons_succ]
                  refine tk 10 (some 95) (.pointer (some ⟨g2, r * 18 + 1, none⟩)) rfl rfl (Or.inl ⟨rfl, fun wq hSq => by first | rfl | go_simp⟩) (by decide +kernel) hS ?_
                  simp only [Act.put, List.setIfInBounds_toArray, List.set_cons_zero, List.set_cons_succ]
                  refine tk 11 (some 96) (.pointer (some ⟨g2, r * 18 + 1, none⟩)) rfl rfl (Or.inl ⟨rfl, fun wq hSq => by first | rfl | go_simp⟩) (by decide +kernel) hS ?_
                  simp only [Act.put, List.setIfInBounds_toArray, List.set_cons_zero, List.set_cons_succ]
                  refine tk 12 (some 97) (.agg (kc x)) rfl rfl ?_ (by decide +kernel) hS ?_
                  · exact yieldsIf_load_mid rfl 29 (.tmp 96) rfl g2 (r * 18 + 1) rfl (kc x).toList _ (fun wq hSq => RY.out wq hSq) Try.underlying29 rfl (by rw [info29]; simp [kc_size])
                  simp only [Act.put, List.setIfInBounds_toArray, List.set_cons_zero, List.set_cons_succ]
                  refine tk 13 (some 98) (.bool false) rfl rfl ?_ (by decide +kernel) hS ?_
                  · exact yieldsIf_bin rfl .neq 29 (.tmp 88) (.tmp 97) rfl _ _ rfl rfl (fun w _ => eguardN29 w _ _ _ _) (fun w _ => (neq29 w HK.out HK.out).trans (by simp))
                  simp only [Act.put, List.setIfInBounds_toArray, List.set_cons_zero, List.set_cons_succ]
                  refine wpAnyH_done (by decide +kernel) ?_ _
                  refine plain_end ?_
                  have HG : Hid (Fr [] Y4 Z) := G.out.trans hS
                  clear hS RX RY RV HK
                  go_wp2
                  go_roundw
                  case rel => exact ⟨r + 1, hrt, by go_num, HG⟩
                  case measure => simp [intOf]; omega
                · obtain rfl : r = KL.length := by omega
                  have HF : Hid (AcI w0 w0.heap.size c d wr (p + 1) S' ∧ S'.lim = limP lim) := ⟨HC4.out.1.1.fr0 G.out, HC4.out.1.2⟩
                  clear HC4 HO4 HKL G
                  go_wp2
                  go_roundw
                  case rel => exact ⟨p + 1, S', hlt, by go_num, HF⟩
                  case measure => simp [intOf]; omega
            refine AllReadyH.cons rfl (fun K hK => ?_) AllReadyH.nil
            rw [if_pos (by rfl)]
            obtain ⟨rs', hra⟩ := HC.out.1.ra
            obtain ⟨_, _, _, _, _, _, hpp, _⟩ := hra.ex
            have qq := at_cells hpp.blk 6 rfl
            go_simp
            clear qq hpp hra
            refine hK.out _ _ hS (fun _ => ?_)
            clear hK K
            try simp only [List.getElem_toArray, List.getElem_cons_succ, List.getElem_cons_zero, Act.put, List.setIfInBounds_toArray, List.set_cons_zero, List.set_cons_succ]
            refine wpAnyH_ready (rs := [7]) (by decide +kernel) (by simp) ?_
            refine AllReadyH.cons rfl (fun K hK => ?_) AllReadyH.nil
            rw [if_pos (by rfl)]
            go_simp
            refine CM.mono ?_
            rintro e Y3 ⟨rfl, f3⟩
            have HC3 : Hid (AcI w0 w0.heap.size c d Y3 (p + 1) S' ∧ S'.lim = limP lim) := ⟨HC.out.1.fr0 f3, HC.out.2⟩
            clear f3 CM HC
            have HC := HC3
            clear HC3
            refine hK.out _ _ hS (fun _ => ?_)
            clear hK K
            try simp only [List.getElem_toArray, List.getElem_cons_succ, List.getElem_cons_zero, Act.put, List.setIfInBounds_toArray, List.set_cons_zero, List.set_cons_succ]
            refine tk 12 (some 61) (.bool false) rfl rfl (Or.inl ⟨rfl, fun wq hSq => by go_simp⟩) (by decide +kernel) hS ?_
            simp only [Act.put, List.setIfInBounds_toArray, List.set_cons_zero, List.set_cons_succ]
            refine tk 13 (some 62) (.bool false) rfl rfl (Or.inl ⟨rfl, fun wq hSq => by go_simp⟩) (by decide +kernel) hS ?_
            simp only [Act.put, List.setIfInBounds_toArray, List.set_cons_zero, List.set_cons_succ]
            refine wpAnyH_done (by decide +kernel) ?_ _
            refine plain_end ?_
            clear hS
            have CK := HC.out.1.aw.keys
            obtain ⟨rs, hra⟩ := HC.out.1.ra
            have hN2 : rs.length = S'.rows.length := rs_len2 hra.abs
            have hkr : rs.map (fun r => r.2.k) = S'.rows.map (fun r => r.2.k) := by rw [← hra.abs, List.map_map]; rfl
            obtain ⟨rv, nv, pa', pcap', pf, used, hpp, _, _⟩ := hra.ex
            obtain ⟨ra, rcap, rfl, hrn⟩ := own_slice hpp.rows
            have kd0 := at_cells hpp.blk 0 rfl
            have hkw := keys_kw HC.out.1.aw.ok
            obtain ⟨M, hM⟩ : ∃ M, max lim 0 = M := ⟨_, rfl⟩
            have hNM : (S'.rows.length : Int) ≤ M := by have h1 := HC.out.1.aw.ok.len; rw [HC.out.2] at h1; unfold limP at h1; omega
            have hN1 : S'.rows.length ≤ 1000 := by have h1 := HC.out.1.aw.ok.len; have h2 := HC.out.1.aw.ok.lim; omega
            have hR := hpp.rows
            have HKL : Hid (∀ (i : Nat) (x : Ky), (S'.rows.map (fun r => r.2.k))[i]? = some x → kw x ∧ ∃ y, rs[i]? = some y ∧ y.2.k = x) := fun i x hx => ⟨hkw x (List.mem_of_getElem? hx), by rw [← hkr, List.getElem?_map] at hx; cases e : rs[i]? with | none => rw [e] at hx; cases hx | some y => rw [e] at hx; exact ⟨y, rfl, Option.some.inj hx⟩⟩
            have hKN : (S'.rows.map (fun r => r.2.k)).length = S'.rows.length := List.length_map _
            clear hpp hra hkw hkr
            generalize S'.rows.map (fun r => r.2.k) = KL at *
            rw [hN2] at kd0
            rw [show S'.rows.length = KL.length from hKN.symm] at CK kd0 hNM hN1 hN2
            have HR : Hid (rs.length = KL.length) := hN2
            clear hKN hN2
            have HRR := hid hR
            clear hR
            have HN1 : Hid (KL.length ≤ 1000) := hN1
            have hN1I : (KL.length : Int) ≤ 1000 := by omega
            clear hN1
            go_wp2_with (go_at_call 13; refine CK.mono ?_; rintro e Y4 ⟨ka, kcap, rfl, ho4, f4⟩; have HO4 : Hid (Y4.ownsRow Y3.heap.size 29 10 (.slice ka KL.length kcap) KL.length (flatKy KL)) := ho4; have kd1 := f4.cell1 kd0 (by simp); have HC4 : Hid ((AcI w0 w0.heap.size c d Y4 (p + 1) S' ∧ S'.lim = limP lim) ∧ Y4.ownsRow w0.heap.size 52 18 (.slice ra rs.length rcap) rs.length (flatR rs)) := ⟨⟨HC.out.1.fr0 f4, HC.out.2⟩, own_fr HRR.out f4 (by simp)⟩; clear ho4 f4 CK kd0 HC HRR)
            go_loopw [82] (fun i wz => ∃ r : Nat, r ≤ KL.length ∧ i = .int .i64 r ∧ Hid (Fr [] Y4 wz)) (fun i _ => KL.length - (intOf i).toNat)
            case atStart => exact ⟨0, Nat.zero_le _, rfl, Fr.refl _ _⟩
            case round =>
              obtain ⟨r, hr, rfl, G⟩ := hrel
              by_cases hrt : r < KL.length
              · have hrI : (r : Int) < KL.length := by omega
                obtain ⟨x, hx⟩ : ∃ x, KL[r]? = some x := ⟨_, List.getElem?_eq_getElem hrt⟩
                obtain ⟨hkx, y, hy, hyx⟩ := HKL.out r x hx
                obtain ⟨g, rfl⟩ : ∃ g, ka = some ⟨g, 0, none⟩ := by
                  obtain ⟨g, c', e1, _⟩ := own_cells HO4.out (j := r * 10) (List.getElem?_eq_getElem (by rw [flatKy_len]; omega))
                  cases e1; exact ⟨g, rfl⟩
                obtain ⟨g2, rfl⟩ : ∃ g, ra = some ⟨g, 0, none⟩ := by
                  obtain ⟨g, c', e1, _⟩ := own_cells HC4.out.2 (j := r * 18) (List.getElem?_eq_getElem (by rw [flatR_len]; have := HR.out; omega))
                  cases e1; exact ⟨g, rfl⟩
                have hcap : (r : Int) ≤ kcap := by
                  rcases HO4.out.2 with ⟨e1, _⟩ | ⟨g', cp, cur, e1, _, _, h3, _⟩
                  · cases e1
                  · cases e1; omega
                have hcap2 : (r : Int) ≤ rcap := by
                  rcases HC4.out.2.2 with ⟨e1, _⟩ | ⟨g', cp, cur, e1, _, _, h3, _⟩
                  · cases e1
                  · cases e1; have := HR.out; omega
                have RX : Hid (∀ w', Fr [] wr w' → w'.rangeAt g (r * 10) (kc x).toList) := fun w' f => rowK_at (own_fr HO4.out (G.out.trans f) (by simp)) hx
                have RY : Hid (∀ w', Fr [] wr w' → w'.rangeAt g2 (r * 18 + 1) (kc x).toList) := fun w' f j v hv => by
                  have h1 := tr_rangeR (rowR_at (own_fr HC4.out.2 (G.out.trans f) (by simp)) hy)
                  refine h1 j v ?_
                  rw [← hyx] at hv
                  have hj : j < 10 := by have := (List.getElem?_eq_some_iff.1 hv).1; rw [kcl_len] at this; exact this
                  rw [Tr.cl, List.getElem?_append_left (by simp [kl0_len]; exact hj)]
                  simpa [kc] using hv
                have kd2 := G.out.cell1 kd1 (by simp)
                have RV : Hid (∀ w', Fr [] wr w' → w'.cell? ⟨d, 0, none⟩ = some (.slice (some ⟨g2, 0, none⟩) KL.length rcap)) := fun w' f => f.cell1 kd2 (by simp)
                have HK : Hid (kw x) := hkx
                clear hkx hy hyx hx kd2
                go_upto_region 25 with fail
                refine reg_in (fun w' => Fr [] wr w') ?_
                have hS : Fr [] wr wr.drew := (Fr.refl _ _).drew
                generalize wr.drew = Z at *
                refine tk 0 (some 85) (.slice (some ⟨g, 0, none⟩) KL.length kcap) rfl rfl (Or.inl ⟨rfl, fun wq hSq => by first | rfl | go_simp⟩) (by decide +kernel) hS ?_
                simp only [Act.put, List.setIfInBounds_toArray, List.set_cons_zero, List.set_cons_succ]
                refine tk 1 (some 86) (.int .i64 r) rfl rfl (Or.inl ⟨rfl, fun wq hSq => by first | rfl | go_simp⟩) (by decide +kernel) hS ?_
                simp only [Act.put, List.setIfInBounds_toArray, List.set_cons_zero, List.set_cons_succ]
                refine tk 2 (some 87) (.pointer (some ⟨g, r * 10, none⟩)) rfl rfl (Or.inl ⟨rfl, fun wq hSq => by go_simp⟩) (by decide +kernel) hS ?_
                simp only [Act.put, List.setIfInBounds_toArray, List.set_cons_zero, List.set_cons_succ]
                refine tk 3 (some 88) (.agg (kc x)) rfl rfl ?_ (by decide +kernel) hS ?_
                · exact yieldsIf_load_mid rfl 29 (.tmp 87) rfl g (r * 10) rfl (kc x).toList _ (fun wq hSq => RX.out wq hSq) Try.underlying29 rfl (by rw [info29]; simp [kc_size])
                simp only [Act.put, List.setIfInBounds_toArray, List.set_cons_zero, List.set_cons_succ]
                refine tk 4 (some 89) (.pointer (some ⟨d, 0, none⟩)) rfl rfl (Or.inl ⟨rfl, fun wq hSq => by first | rfl | go_simp⟩) (by decide +kernel) hS ?_
                simp only [Act.put, List.setIfInBounds_toArray, List.set_cons_zero, List.set_cons_succ]
                refine tk 5 (some 90) (.pointer (some ⟨d, 0, none⟩)) rfl rfl (Or.inl ⟨rfl, fun wq hSq => by first | rfl | go_simp⟩) (by decide +kernel) hS ?_
                simp only [Act.put, List.setIfInBounds_toArray, List.set_cons_zero, List.set_cons_succ]
                refine tk 6 (some 91) (.pointer (some ⟨d, 0, none⟩)) rfl rfl (Or.inl ⟨rfl, fun wq hSq => by first | rfl | go_simp⟩) (by decide +kernel) hS ?_
                simp only [Act.put, List.setIfInBounds_toArray, List.set_cons_zero, List.set_cons_succ]
                refine tk 7 (some 92) (.slice (some ⟨g2, 0, none⟩) KL.length rcap) rfl rfl (Or.inl ⟨rfl, fun wq hSq => by have q := RV.out wq hSq; go_simp⟩) (by decide +kernel) hS ?_
                simp only [Act.put, List.setIfInBounds_toArray, List.set_cons_zero, List.set_cons_succ]
                refine tk 8 (some 93) (.int .i64 r) rfl rfl (Or.inl ⟨rfl, fun wq hSq => by first | rfl | go_simp⟩) (by decide +kernel) hS ?_
                simp only [Act.put, List.setIfInBounds_toArray, List.set_cons_zero, List.set_cons_succ]
                refine tk 9 (some 94) (.pointer (some ⟨g2, r * 18, none⟩)) rfl rfl (Or.inl ⟨rfl, fun wq hSq => by go_simp⟩) (by decide +kernel) hS ?_
                simp only [Act.put, List.setIfInBounds_toArray, List.set_cons_zero, List.set_cons_succ]
                refine tk 10 (some 95) (.pointer (some ⟨g2, r * 18 + 1, none⟩)) rfl rfl (Or.inl ⟨rfl, fun wq hSq => by first | rfl | go_simp⟩) (by decide +kernel) hS ?_
                simp only [Act.put, List.setIfInBounds_toArray, List.set_cons_zero, List.set_cons_succ]
                refine tk 11 (some 96) (.pointer (some ⟨g2, r * 18 + 1, none⟩)) rfl rfl (Or.inl ⟨rfl, fun wq hSq => by first | rfl | go_simp⟩) (by decide +kernel) hS ?_
                simp only [Act.put, List.setIfInBounds_toArray, List.set_cons_zero, List.set_cons_succ]
                refine tk 12 (some 97) (.agg (kc x)) rfl rfl ?_ (by decide +kernel) hS ?_
                · exact yieldsIf_load_mid rfl 29 (.tmp 96) rfl g2 (r * 18 + 1) rfl (kc x).toList _ (fun wq hSq => RY.out wq hSq) Try.underlying29 rfl (by rw [info29]; simp [kc_size])
                simp only [Act.put, List.setIfInBounds_toArray, List.set_cons_zero, List.set_cons_succ]
                refine tk 13 (some 98) (.bool false) rfl rfl ?_ (by decide +kernel) hS ?_
                · exact yieldsIf_bin rfl .neq 29 (.tmp 88) (.tmp 97) rfl _ _ rfl rfl (fun w _ => eguardN29 w _ _ _ _) (fun w _ => (neq29 w HK.out HK.out).trans (by simp))
                simp only [Act.put, List.setIfInBounds_toArray, List.set_cons_zero, List.set_cons_succ]
                refine wpAnyH_done (by decide +kernel) ?_ _
                refine plain_end ?_
                have HG : Hid (Fr [] Y4 Z) := G.out.trans hS
                clear hS RX RY RV HK
                go_wp2
                go_roundw
                case rel => exact ⟨r + 1, hrt, by go_num, HG⟩
                case measure => simp [intOf]; omega
              · obtain rfl : r = KL.length := by omega
                have HF : Hid (AcI w0 w0.heap.size c d wr (p + 1) S' ∧ S'.lim = limP lim) := ⟨HC4.out.1.1.fr0 G.out, HC4.out.1.2⟩
                clear HC4 HO4 HKL G
                go_wp2
                go_roundw
                case rel => exact ⟨p + 1, S', hlt, by go_num, HF⟩
                case measure => simp [intOf]; omega
          · obtain rfl : p = l.length := by omega
            have HFF : Hid (Fr [] W wr) := F.out.trans I.out.1.aw.fr
            clear I
            go_wp2
            go_ret
            exact ⟨rfl, HFF.out⟩
end Go.Proofs.Ytnhjplfdfbbihaa
namespace Go.Proofs.Ytnhjplfdfbbihaa.cacheActs
open Go.ChangeShapes Go.WideShapes Go.ChangeAt Go.RowKit Go.Joins
set_option linter.unusedVariables false

set_option maxRecDepth 100000 in
theorem contract (H : Type) (enc : TypeId × Value → H) (W : World) (base : Nat) (args : Array Value) (ds gs : List (DataW H)) (before : List MemPlace)
    (hval : ∀ (j : Nat) t v, Try.f3.params[j]? = some t → args[j]? = some v → Value.okWide Try.prog W .any base t v)
    (hW : DataW.Whole enc Try.prog Try.f3.params.toList Rows.cacheActsSpec.vars false W args.toList ds gs before) (hk : Rows.uptoSmall H (ds ++ gs) = true) :
    Calls Try.prog 3 args W fun e W' => ∃ v, e = .returned v ∧ Rows.cacheActsSpec.post enc Try.prog Try.f3 false true false false W args v W' := by
  have hW' := hW
  obtain ⟨p, q, hA0, hV, rfl, hfz, hnd⟩ := hW
  have hA : DataW.TrodAll enc Try.prog W 0 (fun _ => true) true Try.f3.params.toList args.toList ds p := hA0
  rw [Try.params3] at hA hval
  obtain ⟨v0, vs0, d0, ds0, p0, q0, hargs, rfl, rfl, h0, r0⟩ := trodAll_cons hA
  obtain ⟨v1, vs1, d1, ds1, p1, q1, rfl, rfl, rfl, h1, r1⟩ := trodAll_cons r0
  obtain ⟨v2, vs2, d2, ds2, p2, q2, rfl, rfl, rfl, h2, r2⟩ := trodAll_cons r1
  obtain ⟨rfl, rfl, rfl⟩ := trodAll_nil r2
  obtain rfl : args = #[v0, v1, v2] := by cases args; simp_all
  obtain ⟨rfl, rfl⟩ := trodVars_none hV
  have hbk := of_decide_eq_true hk
  simp only [List.append_nil, Rows.uptoBulkAll] at hbk
  have k0 := h0
  have lt0 : ∀ x ∈ p0, x.block < W.heap.size := by obtain ⟨m, hm⟩ := k0; exact DataW.trod_lt m _ _ _ hm
  obtain ⟨z0, rfl⟩ := okWide_int Try.underlying3 (hval 0 3 v0 rfl rfl)
  have w0 : (Lit.int .i64 z0).wf = true := by obtain ⟨fu, hfu⟩ := h0; obtain ⟨y, e1, _, e2⟩ := DataW.trod_int Try.underlying3 hfu; simp [Value.cells] at e1; rw [e1]; exact e2
  have k1 := h1
  have lt1 : ∀ x ∈ p1, x.block < W.heap.size := by obtain ⟨m, hm⟩ := k1; exact DataW.trod_lt m _ _ _ hm
  obtain ⟨a1, len1, cap1, rfl⟩ := okWide_slice Try.underlying22 (hval 1 22 v1 rfl rfl)
  obtain ⟨fuel1, hf1⟩ := h1
  obtain ⟨a', cap', L1, e, p1', s1, b1⟩ := read_ints (by simpa [Value.cells] using hf1)
  injection e with e1 e2 e3
  subst e1 e2 e3
  simp only at b1
  have k2 := h2
  have lt2 : ∀ x ∈ p2, x.block < W.heap.size := by obtain ⟨m, hm⟩ := k2; exact DataW.trod_lt m _ _ _ hm
  obtain ⟨a2, len2, cap2, rfl⟩ := okWide_slice Try.underlying23 (hval 2 23 v2 rfl rfl)
  obtain ⟨fuel2, hf2⟩ := h2
  obtain ⟨a', cap', L2, e, p2', s2, b2⟩ := read_acts (by simpa [Value.cells] using hf2)
  injection e with e1 e2 e3
  subst e1 e2 e3
  simp only at b2
  clear hA0
  refine (cacheActs_walk z0 a1 cap1 L1 (s1 8 (by omega)) p1' a2 cap2 L2 (by have := costA_len L2; omega) s2 (fun t ht => (p2' t ht).ok (by have := costA_mem ht; omega))).mono fun e W' ⟨he, hF⟩ => ?_
  subst he
  have bel : Below W.heap.size W W' := hF.below (Nat.le_refl _) (by simp)
  exact ⟨_, rfl, _, _, _, [], _, [], hW', trodAll_mk1 (shut_bool Try.underlying4 _), (trodAll_cons_mk (Below.trod laidOut (by kernel_rfl) (of_decide_eq_true (by kernel_rfl)) k0 bel lt0) (trodAll_cons_mk (Below.trod laidOut (by kernel_rfl) (of_decide_eq_true (by kernel_rfl)) k1 bel lt1) (trodAll_cons_mk (Below.trod laidOut (by kernel_rfl) (of_decide_eq_true (by kernel_rfl)) k2 bel lt2) trodAll_mk0))), rfl, bel.frame _, fun h => by cases h⟩

set_option maxRecDepth 100000 in
theorem lifted (os : Os) (started : os.Started) (H : Type) (enc : TypeId × Value → H) (F : Stop.Interp) :
    ReturnsInHanded {} Try.checked os 3 .any ((Rows.OpenSpec.upto Rows.cacheActsSpec).pre6 enc Try.prog Try.f3 Rows.cacheActsUptoRow.domain false) (((Rows.OpenSpec.upto Rows.cacheActsSpec).at F).post enc Try.prog Try.f3 false true false false) := by
  refine returnsInHanded_of_cond (C := Try.checked) (s := Rows.OpenSpec.upto Rows.cacheActsSpec) (k := Rows.uptoSmall) rfl own started (by kernel_rfl) Try.func3
    (OpenSpec.witness (enc := enc) (C := Try.checked) (s := Rows.OpenSpec.upto Rows.cacheActsSpec) (k := Rows.uptoSmall) rfl false ⟨#[], #[.int .i64 0, .slice none 0 0, .slice none 0 0], []⟩ 8 (by kernel_rfl) (by kernel_rfl) (by kernel_rfl)
      (x := ([.lit (.int .i64 0), .nil, .nil], [], [])) (by kernel_rfl) rfl (by kernel_rfl)) ?_
  intro W base args ds gs before hval hW _ hk _
  exact contract H enc W base args ds gs before hval hW hk

theorem over : Rows.cacheActsUptoRow.holds Try.pinned (Rows.OpenSpec.upto Rows.cacheActsSpec) :=
  OpenClaim.holds_of_cond 3 Try.f3 rfl rfl rfl rfl rfl rfl rfl ⟨rfl, rfl, rfl, rfl, rfl⟩ rfl rfl rfl rfl rfl (by kernel_rfl) Try.func3 (by kernel_rfl)
    (of_decide_eq_true (by kernel_rfl)) (by unfold Func.isWrapper; first | (rw [if_pos (by decide +kernel)]; kernel_rfl) | (rw [if_neg (by decide +kernel)]; exact ⟨rfl, rfl⟩))
    (fun os started H enc _ F => lifted os started H enc F)
end Go.Proofs.Ytnhjplfdfbbihaa.cacheActs
namespace Go.Proofs.Ytnhjplfdfbbihaa
theorem cacheActs_holds : Rows.CacheActsUptoSaid := cacheActs.over
#print axioms cacheActs_holds
end Go.Proofs.Ytnhjplfdfbbihaa
