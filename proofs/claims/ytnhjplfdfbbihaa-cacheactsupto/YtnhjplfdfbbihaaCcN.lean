/-
  A call on both caches is answered alike; condition: both caches lie as told.
-/
import Derived.Test.YtnhjplfdfbbihaaCcM
namespace Go.Proofs.Ytnhjplfdfbbihaa
open Go.RowKit Go.Shelf Go.Maps Go.ChangeShapes
set_option linter.unusedVariables false
set_option linter.unusedSimpArgs false
/-- A call: what, a trace, numbers. -/
structure Ac where
  d : Int
  t : Tr
  id : Int
  op : Int
  to : Int
def Ac.cl (a : Ac) : List Value := .int .i64 a.d :: (a.t.cl ++ [.int .i64 a.id, .int .i64 a.op, .int .i64 a.to])
theorem Ac.cl_len (a : Ac) : a.cl.length = 21 := by simp [Ac.cl, Tr.cl_len]
def Ac.arr (a : Ac) : Array Value := a.cl.toArray
theorem Ac.arr_size (a : Ac) : a.arr.size = 21 := by simp [Ac.arr, Ac.cl_len]
theorem Ac.at_d (a : Ac) : a.arr[0]? = some (.int .i64 a.d) := rfl
theorem Ac.at_n (a : Ac) : a.arr[18]? = some (.int .i64 a.id) ∧ a.arr[19]? = some (.int .i64 a.op) ∧ a.arr[20]? = some (.int .i64 a.to) := by
  obtain ⟨d, ⟨⟨a, b, c, d', e, f, g, h, x, j⟩, fn, pc, ia, ic, ins, oa, oc, ops, la, lc, links, va, vc, virts, ba, bc, back⟩, i, p, t⟩ := a
  exact ⟨rfl, rfl, rfl⟩
theorem Ac.range {w : World} {b : Nat} {a : Ac} (h : w.heap[b]? = some (.cells a.arr 37 (0, 0))) : w.rangeAt b 1 a.t.cl := fun j v hv => by
  rw [Nat.add_comm]
  refine at_cells h (j + 1) ?_
  have hj : j < 17 := by have := (List.getElem?_eq_some_iff.1 hv).1; rw [Tr.cl_len] at this; exact this
  simp only [Ac.arr, Ac.cl, List.getElem?_toArray, List.getElem?_cons_succ]
  rw [List.getElem?_append_left (by rw [Tr.cl_len]; exact hj)]
  exact hv
theorem Ac.key_range {w : World} {b : Nat} {a : Ac} (h : w.heap[b]? = some (.cells a.arr 37 (0, 0))) : w.rangeAt b 1 (kc a.t.k).toList := fun j v hv => by
  refine Ac.range h j v ?_
  have hj : j < 10 := by have := (List.getElem?_eq_some_iff.1 hv).1; rw [kcl_len] at this; exact this
  rw [Tr.cl, List.getElem?_append_left (by simp [kl0_len]; exact hj)]
  simpa [kc] using hv
theorem AwS.more {w0 w : World} {B c n m : Nat} {S : Bk} (h : AwS w0 B c w n S) (hm : n ≤ m) : AwS w0 B c w m S := ⟨by obtain ⟨rs, h1⟩ := h.ca; exact ⟨rs, h1.more hm⟩, h.ok.more hm, h.pw, h.fr, h.lo, h.hi⟩
theorem AwS.gmR {w0 w w' : World} {B c n : Nat} {S : Bk} (h : AwS w0 B c w n S) (g : Gm B pR false w w') : AwS w0 B c w' n S := ⟨by obtain ⟨rs, h1⟩ := h.ca; exact ⟨rs, h1.gm g⟩, h.ok, h.pw, h.fr.overM g h.lo, h.lo, Nat.le_trans h.hi g.size⟩
theorem drop_pk2 (S : Bk) (k : Ky) : (dropB S k).pk = S.pk := drop_pk S k
theorem AwS.drop {w0 w : World} {B c n : Nat} {S : Bk} (h : AwS w0 B c w n S) (hn : n ≤ 100000000000000) {k : Ky} (hk : kw k) :
    Calls Try.prog 18 #[.pointer (some ⟨c, 0, none⟩), .agg (kc k)] w fun e w' => e = .returned (.bool (kfind S.rows k).isSome) ∧ AwS w0 B c w' n (dropB S k) ∧ Gm B pP true w w' := by
  obtain ⟨rs, hc⟩ := h.ca
  refine (drop_any hc h.ok hn h.hi hk).mono ?_
  rintro e w' ⟨h1, h2, h3⟩
  exact ⟨h1, ⟨h2, h.ok.drop k, by rw [drop_pk]; exact h.pw, h.fr.overM h3 h.lo, h.lo, Nat.le_trans h.hi h3.size⟩, h3⟩
theorem AwS.fail {w0 w : World} {B c n : Nat} {S : Bk} (h : AwS w0 B c w n S) (hn : n ≤ 100000000000000) {i p : Int} (hi : W64 i) (hp : W64 p) :
    Calls Try.prog 19 #[.pointer (some ⟨c, 0, none⟩), .int .i64 i, .int .i64 p] w fun e w' => e = .returned (.int .i64 (failR S i p)) ∧ AwS w0 B c w' (n + 1) (failB S i p) ∧ Gm B pP true w w' := by
  obtain ⟨rs, hc⟩ := h.ca
  refine (fail_any hc h.ok hn hi hp).mono ?_
  rintro e w' ⟨h1, h2, h3⟩
  exact ⟨h1, ⟨⟨rs, h2⟩, h.ok.fail hi hp, by unfold failB; split <;> exact h.pw, h.fr.overM h3 h.lo, h.lo, Nat.le_trans h.hi h3.size⟩, h3⟩
theorem AwS.link {w0 w : World} {B c n : Nat} {S : Bk} (h : AwS w0 B c w n S) (hn : n ≤ 100000000000000) {i p t : Int} (hi : W64 i) (hp : W64 p) (ht : W64 t) :
    Calls Try.prog 20 #[.pointer (some ⟨c, 0, none⟩), .int .i64 i, .int .i64 p, .int .i64 t] w fun e w' => e = .returned (.int .i64 (linkR S i p t)) ∧ AwS w0 B c w' (n + 1) (linkB S i p t) ∧ Gm B pP true w w' := by
  obtain ⟨rs, hc⟩ := h.ca
  refine (link_any hc h.ok hn hi hp ht).mono ?_
  rintro e w' ⟨h1, h2, h3⟩
  exact ⟨h1, ⟨⟨rs, h2⟩, h.ok.link hi hp ht, by unfold linkB; split <;> exact h.pw, h.fr.overM h3 h.lo, h.lo, Nat.le_trans h.hi h3.size⟩, h3⟩
theorem AwS.linked {w0 w : World} {B c n : Nat} {S : Bk} (h : AwS w0 B c w n S) {i p : Int} (hi : W64 i) (hp : W64 p) :
    Calls Try.prog 17 #[.pointer (some ⟨c, 0, none⟩), .int .i64 i, .int .i64 p] w fun e w' => e = .returned (.tuple #[.int .i64 ((linksF S.notes i p).getD 0), .bool (linksF S.notes i p).isSome]) ∧ Fr [] w w' := by
  obtain ⟨rs, hc⟩ := h.ca
  exact linked_any hc hi hp
theorem put_limB (S : Bk) (t : AT) : (putB S t).lim = S.lim := by
  unfold putB
  split
  · rfl
  · show (roomB (dropB S t.k)).lim = _
    rw [room_lim, drop_lim]
theorem fail_limB (S : Bk) (i p : Int) : (failB S i p).lim = S.lim := by unfold failB; split <;> rfl
theorem link_limB (S : Bk) (i p t : Int) : (linkB S i p t).lim = S.lim := by unfold linkB; split <;> rfl
/-- Both caches. -/
structure AcI (w0 : World) (B c d : Nat) (w : World) (n : Nat) (S : Bk) : Prop where
  aw : AwS w0 B c w n S
  ra : ∃ rs, RA w B d rs S
theorem AcI.fr0 {w0 w w' : World} {B c d n : Nat} {S : Bk} (h : AcI w0 B c d w n S) (f : Fr [] w w') : AcI w0 B c d w' n S := ⟨h.aw.fr0 f, by obtain ⟨rs, h1⟩ := h.ra; exact ⟨rs, h1.fr0 f⟩⟩
/-- What is known of a call. -/
structure AcO (w : World) (B : Nat) (a : Ac) : Prop where
  tr : TrOk w B a.t
  at_ : ATOk a.t.abs
  id : W64 a.id
  op : W64 a.op
  to : W64 a.to
set_option maxRecDepth 100000 in
set_option maxHeartbeats 4000000 in
theorem act_put {w0 w : World} {B c d n : Nat} {S : Bk} (h : AcI w0 B c d w n S) (hn : n ≤ 1048576) {a : Ac} (ha : AcO w B a) (hd : a.d = 0) :
    Calls Try.prog 11 #[.pointer (some ⟨c, 0, none⟩), .pointer (some ⟨d, 0, none⟩), .agg a.arr] w fun e w' => e = .returned (.bool true) ∧ ∃ S', AcI w0 B c d w' (n + 1) S' ∧ S'.lim = S.lim := by
  have F1 : Fr [] w (w.alloc (.cells a.arr 37)) := (Fr.refl _ _).alloc _
  have hx := heap_alloc_new w (.cells a.arr 37)
  have k0 : (w.alloc (.cells a.arr 37)).cell? ⟨w.heap.size, 0, none⟩ = some (.int .i64 a.d) := at_cells hx 0 a.at_d
  have HI : Hid (AcI w0 B c d (w.alloc (.cells a.arr 37)) n S ∧ TrOk (w.alloc (.cells a.arr 37)) B a.t ∧ ATOk a.t.abs ∧ W64 a.id ∧ W64 a.op ∧ W64 a.to ∧ n ≤ 1048576) := ⟨h.fr0 F1, ha.tr.fr0 F1, ha.at_, ha.id, ha.op, ha.to, hn⟩
  have HX : Hid ((w.alloc (.cells a.arr 37)).heap[w.heap.size]? = some (.cells a.arr 37 (0, 0))) := hx
  clear h ha hn F1 hx
  rw [hd] at k0
  clear hd
  go_enter Try.func11, Try.ntmps11
  go_upto_region 1 with fail
  generalize w.alloc (.cells a.arr 37) = V at *
  generalize w.heap.size = ab at *
  go_upto_region 3 with fail
  clear k0
  have hF : Fr [] V V.drew := (Fr.refl _ _).drew
  have hS : V.drew.heap[ab]? = some (.cells a.arr 37 (0, 0)) := (hF.block _ (Array.getElem?_eq_some_iff.1 HX.out).1 (by simp)).trans HX.out
  have HY : Hid (AcI w0 B c d V.drew n S ∧ TrOk V.drew B a.t) := ⟨HI.out.1.fr0 hF, HI.out.2.1.fr0 hF⟩
  clear hF HX
  refine reg_in (fun w' => w'.heap[ab]? = some (.cells a.arr 37 (0, 0))) ?_
  generalize V.drew = Y at *
  have CP := HY.out.1.aw.put (by have := HI.out.2.2.2.2.2.2; omega) HY.out.2 HI.out.2.2.1
  refine tk 0 (some 21) (.pointer (some ⟨c, 0, none⟩)) rfl rfl (Or.inl ⟨rfl, fun wq hSq => by first | rfl | go_simp⟩) (by decide +kernel) hS ?_
  simp only [Act.put, List.setIfInBounds_toArray, List.set_cons_zero, List.set_cons_succ]
  refine tk 1 (some 22) (.pointer (some ⟨ab, 1, none⟩)) rfl rfl (Or.inl ⟨rfl, fun wq hSq => by first | rfl | go_simp⟩) (by decide +kernel) hS ?_
  simp only [Act.put, List.setIfInBounds_toArray, List.set_cons_zero, List.set_cons_succ]
  refine tk 2 (some 23) (.agg a.t.arr) rfl rfl ?_ (by decide +kernel) hS ?_
  · exact yieldsIf_load_mid rfl 35 (.tmp 22) rfl ab 1 rfl a.t.cl _ (fun wq hSq => Ac.range hSq) Try.underlying35 rfl (by rw [Tr.cl_len]; exact info35)
  simp only [Act.put, List.setIfInBounds_toArray, List.set_cons_zero, List.set_cons_succ]
  refine tk 4 (some 25) (.pointer (some ⟨d, 0, none⟩)) rfl rfl (Or.inl ⟨rfl, fun wq hSq => by first | rfl | go_simp⟩) (by decide +kernel) hS ?_
  simp only [Act.put, List.setIfInBounds_toArray, List.set_cons_zero, List.set_cons_succ]
  refine tk 5 (some 26) (.pointer (some ⟨ab, 1, none⟩)) rfl rfl (Or.inl ⟨rfl, fun wq hSq => by first | rfl | go_simp⟩) (by decide +kernel) hS ?_
  simp only [Act.put, List.setIfInBounds_toArray, List.set_cons_zero, List.set_cons_succ]
  refine tk 6 (some 27) (.agg a.t.arr) rfl rfl ?_ (by decide +kernel) hS ?_
  · exact yieldsIf_load_mid rfl 35 (.tmp 26) rfl ab 1 rfl a.t.cl _ (fun wq hSq => Ac.range hSq) Try.underlying35 rfl (by rw [Tr.cl_len]; exact info35)
  simp only [Act.put, List.setIfInBounds_toArray, List.set_cons_zero, List.set_cons_succ]
  refine wpAnyH_ready (rs := [3]) (by decide +kernel) (by simp) ?_
  refine AllReadyH.cons rfl (fun K hK => ?_) AllReadyH.nil
  go_simp
  refine CP.mono ?_
  rintro e Y2 ⟨rfl, h2, g2⟩
  have hS2 : Y2.heap[ab]? = some (.cells a.arr 37 (0, 0)) := (g2.block _ (Array.getElem?_eq_some_iff.1 hS).1 (.inr (.inl ⟨_, _, _, hS, rfl⟩))).trans hS
  obtain ⟨rs, hra⟩ := HY.out.1.ra
  have CR := put_r (hra.gm g2) HY.out.1.aw.ok HI.out.2.2.2.2.2.2 (Nat.le_trans HY.out.1.aw.hi g2.size) (HY.out.2.gm g2 pP_ro) HI.out.2.2.1
  have H2 : Hid (AwS w0 B c Y2 (n + 1) (putB S a.t.abs)) := h2
  clear h2 g2 hra CP
  have hS := hS2
  clear hS2
  refine hK.out _ _ hS (fun _ => ?_)
  clear hK K
  try simp only [List.getElem_toArray, List.getElem_cons_succ, List.getElem_cons_zero, Act.put, List.setIfInBounds_toArray, List.set_cons_zero, List.set_cons_succ]
  refine wpAnyH_ready (rs := [7]) (by decide +kernel) (by simp) ?_
  refine AllReadyH.cons rfl (fun K hK => ?_) AllReadyH.nil
  go_simp
  refine CR.mono ?_
  rintro e Y3 ⟨rfl, h3, g3⟩
  have hS2 : Y3.heap[ab]? = some (.cells a.arr 37 (0, 0)) := (g3.block _ (Array.getElem?_eq_some_iff.1 hS).1 (.inr (.inl ⟨_, _, _, hS, rfl⟩))).trans hS
  have H3 : Hid (AcI w0 B c d Y3 (n + 1) (putB S a.t.abs)) := ⟨H2.out.gmR g3, h3⟩
  clear h3 g3 CR
  have hS := hS2
  clear hS2
  refine hK.out _ _ hS (fun _ => ?_)
  clear hK K
  try simp only [List.getElem_toArray, List.getElem_cons_succ, List.getElem_cons_zero, Act.put, List.setIfInBounds_toArray, List.set_cons_zero, List.set_cons_succ]
  refine tk 8 (some 29) (.bool true) rfl rfl (Or.inl ⟨rfl, fun wq hSq => by go_simp⟩) (by decide +kernel) hS ?_
  simp only [Act.put, List.setIfInBounds_toArray, List.set_cons_zero, List.set_cons_succ]
  refine tk 9 (some 6) (.bool true) rfl rfl (Or.inl ⟨rfl, fun wq hSq => by first | rfl | go_simp⟩) (by decide +kernel) hS ?_
  simp only [Act.put, List.setIfInBounds_toArray, List.set_cons_zero, List.set_cons_succ]
  refine wpAnyH_done (by decide +kernel) ?_ _
  refine plain_end ?_
  clear hS
  go_wp2
  go_ret
  exact ⟨rfl, _, H3.out, put_limB _ _⟩
set_option maxRecDepth 100000 in
set_option maxHeartbeats 4000000 in
theorem act_drop {w0 w : World} {B c d n : Nat} {S : Bk} (h : AcI w0 B c d w n S) (hn : n ≤ 1048576) {a : Ac} (ha : AcO w B a) (hd : a.d = 1) :
    Calls Try.prog 11 #[.pointer (some ⟨c, 0, none⟩), .pointer (some ⟨d, 0, none⟩), .agg a.arr] w fun e w' => e = .returned (.bool true) ∧ ∃ S', AcI w0 B c d w' (n + 1) S' ∧ S'.lim = S.lim := by
  have F1 : Fr [] w (w.alloc (.cells a.arr 37)) := (Fr.refl _ _).alloc _
  have hx := heap_alloc_new w (.cells a.arr 37)
  have k0 : (w.alloc (.cells a.arr 37)).cell? ⟨w.heap.size, 0, none⟩ = some (.int .i64 a.d) := at_cells hx 0 a.at_d
  have HI : Hid (AcI w0 B c d (w.alloc (.cells a.arr 37)) n S ∧ TrOk (w.alloc (.cells a.arr 37)) B a.t ∧ ATOk a.t.abs ∧ W64 a.id ∧ W64 a.op ∧ W64 a.to ∧ n ≤ 1048576) := ⟨h.fr0 F1, ha.tr.fr0 F1, ha.at_, ha.id, ha.op, ha.to, hn⟩
  have HX : Hid ((w.alloc (.cells a.arr 37)).heap[w.heap.size]? = some (.cells a.arr 37 (0, 0))) := hx
  clear h ha hn F1 hx
  rw [hd] at k0
  clear hd
  go_enter Try.func11, Try.ntmps11
  go_upto_region 1 with fail
  generalize w.alloc (.cells a.arr 37) = V at *
  generalize w.heap.size = ab at *
  go_upto_region 5 with fail
  clear k0
  have hF : Fr [] V V.drew := (Fr.refl _ _).drew
  have hS : V.drew.heap[ab]? = some (.cells a.arr 37 (0, 0)) := (hF.block _ (Array.getElem?_eq_some_iff.1 HX.out).1 (by simp)).trans HX.out
  have HY : Hid (AcI w0 B c d V.drew n S ∧ TrOk V.drew B a.t) := ⟨HI.out.1.fr0 hF, HI.out.2.1.fr0 hF⟩
  clear hF HX
  refine reg_in (fun w' => w'.heap[ab]? = some (.cells a.arr 37 (0, 0))) ?_
  generalize V.drew = Y at *
  have CP := HY.out.1.aw.drop (by have := HI.out.2.2.2.2.2.2; omega) HI.out.2.2.1.kw
  refine tk 0 (some 32) (.pointer (some ⟨c, 0, none⟩)) rfl rfl (Or.inl ⟨rfl, fun wq hSq => by first | rfl | go_simp⟩) (by decide +kernel) hS ?_
  simp only [Act.put, List.setIfInBounds_toArray, List.set_cons_zero, List.set_cons_succ]
  refine tk 1 (some 33) (.pointer (some ⟨ab, 1, none⟩)) rfl rfl (Or.inl ⟨rfl, fun wq hSq => by first | rfl | go_simp⟩) (by decide +kernel) hS ?_
  simp only [Act.put, List.setIfInBounds_toArray, List.set_cons_zero, List.set_cons_succ]
  refine tk 2 (some 34) (.pointer (some ⟨ab, 1, none⟩)) rfl rfl (Or.inl ⟨rfl, fun wq hSq => by first | rfl | go_simp⟩) (by decide +kernel) hS ?_
  simp only [Act.put, List.setIfInBounds_toArray, List.set_cons_zero, List.set_cons_succ]
  refine tk 3 (some 35) (.agg (kc a.t.k)) rfl rfl ?_ (by decide +kernel) hS ?_
  · exact yieldsIf_load_mid rfl 29 (.tmp 34) rfl ab 1 rfl (kc a.t.k).toList _ (fun wq hSq => Ac.key_range hSq) Try.underlying29 rfl (by rw [info29]; simp [kc_size])
  simp only [Act.put, List.setIfInBounds_toArray, List.set_cons_zero, List.set_cons_succ]
  refine tk 5 (some 37) (.pointer (some ⟨d, 0, none⟩)) rfl rfl (Or.inl ⟨rfl, fun wq hSq => by first | rfl | go_simp⟩) (by decide +kernel) hS ?_
  simp only [Act.put, List.setIfInBounds_toArray, List.set_cons_zero, List.set_cons_succ]
  refine tk 6 (some 38) (.pointer (some ⟨ab, 1, none⟩)) rfl rfl (Or.inl ⟨rfl, fun wq hSq => by first | rfl | go_simp⟩) (by decide +kernel) hS ?_
  simp only [Act.put, List.setIfInBounds_toArray, List.set_cons_zero, List.set_cons_succ]
  refine tk 7 (some 39) (.pointer (some ⟨ab, 1, none⟩)) rfl rfl (Or.inl ⟨rfl, fun wq hSq => by first | rfl | go_simp⟩) (by decide +kernel) hS ?_
  simp only [Act.put, List.setIfInBounds_toArray, List.set_cons_zero, List.set_cons_succ]
  refine tk 8 (some 40) (.agg (kc a.t.k)) rfl rfl ?_ (by decide +kernel) hS ?_
  · exact yieldsIf_load_mid rfl 29 (.tmp 39) rfl ab 1 rfl (kc a.t.k).toList _ (fun wq hSq => Ac.key_range hSq) Try.underlying29 rfl (by rw [info29]; simp [kc_size])
  simp only [Act.put, List.setIfInBounds_toArray, List.set_cons_zero, List.set_cons_succ]
  refine wpAnyH_ready (rs := [4]) (by decide +kernel) (by simp) ?_
  refine AllReadyH.cons rfl (fun K hK => ?_) AllReadyH.nil
  go_simp
  refine CP.mono ?_
  rintro e Y2 ⟨rfl, h2, g2⟩
  have hS2 : Y2.heap[ab]? = some (.cells a.arr 37 (0, 0)) := (g2.block _ (Array.getElem?_eq_some_iff.1 hS).1 (.inr (.inl ⟨_, _, _, hS, rfl⟩))).trans hS
  obtain ⟨rs, hra⟩ := HY.out.1.ra
  have CR := drop_r (hra.gm g2) HY.out.1.aw.ok HI.out.2.2.2.2.2.2 (Nat.le_trans HY.out.1.aw.hi g2.size) HI.out.2.2.1.kw
  have H2 : Hid (AwS w0 B c Y2 (n + 1) (dropB S a.t.k)) := h2.more (by omega)
  clear h2 g2 hra CP
  have hS := hS2
  clear hS2
  refine hK.out _ _ hS (fun _ => ?_)
  clear hK K
  try simp only [List.getElem_toArray, List.getElem_cons_succ, List.getElem_cons_zero, Act.put, List.setIfInBounds_toArray, List.set_cons_zero, List.set_cons_succ]
  refine wpAnyH_ready (rs := [9]) (by decide +kernel) (by simp) ?_
  refine AllReadyH.cons rfl (fun K hK => ?_) AllReadyH.nil
  go_simp
  refine CR.mono ?_
  rintro e Y3 ⟨rfl, h3, g3⟩
  have hS2 : Y3.heap[ab]? = some (.cells a.arr 37 (0, 0)) := (g3.block _ (Array.getElem?_eq_some_iff.1 hS).1 (.inr (.inl ⟨_, _, _, hS, rfl⟩))).trans hS
  have H3 : Hid (AcI w0 B c d Y3 (n + 1) (dropB S a.t.k)) := ⟨H2.out.gmR g3, h3⟩
  clear h3 g3 CR
  have hS := hS2
  clear hS2
  refine hK.out _ _ hS (fun _ => ?_)
  clear hK K
  try simp only [List.getElem_toArray, List.getElem_cons_succ, List.getElem_cons_zero, Act.put, List.setIfInBounds_toArray, List.set_cons_zero, List.set_cons_succ]
  refine tk 10 (some 42) (.bool true) rfl rfl (Or.inl ⟨rfl, fun wq hSq => by go_simp⟩) (by decide +kernel) hS ?_
  simp only [Act.put, List.setIfInBounds_toArray, List.set_cons_zero, List.set_cons_succ]
  refine tk 11 (some 6) (.bool true) rfl rfl (Or.inl ⟨rfl, fun wq hSq => by first | rfl | go_simp⟩) (by decide +kernel) hS ?_
  simp only [Act.put, List.setIfInBounds_toArray, List.set_cons_zero, List.set_cons_succ]
  refine wpAnyH_done (by decide +kernel) ?_ _
  refine plain_end ?_
  clear hS
  go_wp2
  go_ret
  exact ⟨rfl, _, H3.out, drop_lim _ _⟩
set_option maxRecDepth 100000 in
set_option maxHeartbeats 4000000 in
theorem act_fail {w0 w : World} {B c d n : Nat} {S : Bk} (h : AcI w0 B c d w n S) (hn : n ≤ 1048576) {a : Ac} (ha : AcO w B a) (hd : a.d = 2) :
    Calls Try.prog 11 #[.pointer (some ⟨c, 0, none⟩), .pointer (some ⟨d, 0, none⟩), .agg a.arr] w fun e w' => e = .returned (.bool true) ∧ ∃ S', AcI w0 B c d w' (n + 1) S' ∧ S'.lim = S.lim := by
  have F1 : Fr [] w (w.alloc (.cells a.arr 37)) := (Fr.refl _ _).alloc _
  have hx := heap_alloc_new w (.cells a.arr 37)
  have k0 : (w.alloc (.cells a.arr 37)).cell? ⟨w.heap.size, 0, none⟩ = some (.int .i64 a.d) := at_cells hx 0 a.at_d
  have HI : Hid (AcI w0 B c d (w.alloc (.cells a.arr 37)) n S ∧ TrOk (w.alloc (.cells a.arr 37)) B a.t ∧ ATOk a.t.abs ∧ W64 a.id ∧ W64 a.op ∧ W64 a.to ∧ n ≤ 1048576) := ⟨h.fr0 F1, ha.tr.fr0 F1, ha.at_, ha.id, ha.op, ha.to, hn⟩
  have HX : Hid ((w.alloc (.cells a.arr 37)).heap[w.heap.size]? = some (.cells a.arr 37 (0, 0))) := hx
  clear h ha hn F1 hx
  rw [hd] at k0
  clear hd
  go_enter Try.func11, Try.ntmps11
  go_upto_region 1 with fail
  generalize w.alloc (.cells a.arr 37) = V at *
  generalize w.heap.size = ab at *
  go_upto_region 7 with fail
  clear k0
  have hF : Fr [] V V.drew := (Fr.refl _ _).drew
  have hS : V.drew.heap[ab]? = some (.cells a.arr 37 (0, 0)) := (hF.block _ (Array.getElem?_eq_some_iff.1 HX.out).1 (by simp)).trans HX.out
  have HY : Hid (AcI w0 B c d V.drew n S ∧ TrOk V.drew B a.t) := ⟨HI.out.1.fr0 hF, HI.out.2.1.fr0 hF⟩
  clear hF HX
  refine reg_in (fun w' => w'.heap[ab]? = some (.cells a.arr 37 (0, 0))) ?_
  generalize V.drew = Y at *
  have CP := HY.out.1.aw.fail (by have := HI.out.2.2.2.2.2.2; omega) HI.out.2.2.2.1 HI.out.2.2.2.2.1
  refine tk 0 (some 45) (.pointer (some ⟨c, 0, none⟩)) rfl rfl (Or.inl ⟨rfl, fun wq hSq => by first | rfl | go_simp⟩) (by decide +kernel) hS ?_
  simp only [Act.put, List.setIfInBounds_toArray, List.set_cons_zero, List.set_cons_succ]
  refine tk 1 (some 46) (.pointer (some ⟨ab, 18, none⟩)) rfl rfl (Or.inl ⟨rfl, fun wq hSq => by first | rfl | go_simp⟩) (by decide +kernel) hS ?_
  simp only [Act.put, List.setIfInBounds_toArray, List.set_cons_zero, List.set_cons_succ]
  refine tk 2 (some 47) (.int .i64 a.id) rfl rfl (Or.inl ⟨rfl, fun wq hSq => by have q := at_cells hSq 18 a.at_n.1; go_simp⟩) (by decide +kernel) hS ?_
  simp only [Act.put, List.setIfInBounds_toArray, List.set_cons_zero, List.set_cons_succ]
  refine tk 3 (some 48) (.pointer (some ⟨ab, 19, none⟩)) rfl rfl (Or.inl ⟨rfl, fun wq hSq => by first | rfl | go_simp⟩) (by decide +kernel) hS ?_
  simp only [Act.put, List.setIfInBounds_toArray, List.set_cons_zero, List.set_cons_succ]
  refine tk 4 (some 49) (.int .i64 a.op) rfl rfl (Or.inl ⟨rfl, fun wq hSq => by have q := at_cells hSq 19 a.at_n.2.1; go_simp⟩) (by decide +kernel) hS ?_
  simp only [Act.put, List.setIfInBounds_toArray, List.set_cons_zero, List.set_cons_succ]
  refine tk 6 (some 51) (.pointer (some ⟨d, 0, none⟩)) rfl rfl (Or.inl ⟨rfl, fun wq hSq => by first | rfl | go_simp⟩) (by decide +kernel) hS ?_
  simp only [Act.put, List.setIfInBounds_toArray, List.set_cons_zero, List.set_cons_succ]
  refine tk 7 (some 52) (.pointer (some ⟨ab, 18, none⟩)) rfl rfl (Or.inl ⟨rfl, fun wq hSq => by first | rfl | go_simp⟩) (by decide +kernel) hS ?_
  simp only [Act.put, List.setIfInBounds_toArray, List.set_cons_zero, List.set_cons_succ]
  refine tk 8 (some 53) (.int .i64 a.id) rfl rfl (Or.inl ⟨rfl, fun wq hSq => by have q := at_cells hSq 18 a.at_n.1; go_simp⟩) (by decide +kernel) hS ?_
  simp only [Act.put, List.setIfInBounds_toArray, List.set_cons_zero, List.set_cons_succ]
  refine tk 9 (some 54) (.pointer (some ⟨ab, 19, none⟩)) rfl rfl (Or.inl ⟨rfl, fun wq hSq => by first | rfl | go_simp⟩) (by decide +kernel) hS ?_
  simp only [Act.put, List.setIfInBounds_toArray, List.set_cons_zero, List.set_cons_succ]
  refine tk 10 (some 55) (.int .i64 a.op) rfl rfl (Or.inl ⟨rfl, fun wq hSq => by have q := at_cells hSq 19 a.at_n.2.1; go_simp⟩) (by decide +kernel) hS ?_
  simp only [Act.put, List.setIfInBounds_toArray, List.set_cons_zero, List.set_cons_succ]
  refine wpAnyH_ready (rs := [5]) (by decide +kernel) (by simp) ?_
  refine AllReadyH.cons rfl (fun K hK => ?_) AllReadyH.nil
  go_simp
  refine CP.mono ?_
  rintro e Y2 ⟨rfl, h2, g2⟩
  have hS2 : Y2.heap[ab]? = some (.cells a.arr 37 (0, 0)) := (g2.block _ (Array.getElem?_eq_some_iff.1 hS).1 (.inr (.inl ⟨_, _, _, hS, rfl⟩))).trans hS
  obtain ⟨rs, hra⟩ := HY.out.1.ra
  have CR := fail_r (hra.gm g2) HY.out.1.aw.ok HI.out.2.2.2.2.2.2 (Nat.le_trans HY.out.1.aw.hi g2.size) a.id a.op
  have H2 : Hid (AwS w0 B c Y2 (n + 1) (failB S a.id a.op)) := h2
  clear h2 g2 hra CP
  have hS := hS2
  clear hS2
  refine hK.out _ _ hS (fun _ => ?_)
  clear hK K
  try simp only [List.getElem_toArray, List.getElem_cons_succ, List.getElem_cons_zero, Act.put, List.setIfInBounds_toArray, List.set_cons_zero, List.set_cons_succ]
  refine wpAnyH_ready (rs := [11]) (by decide +kernel) (by simp) ?_
  refine AllReadyH.cons rfl (fun K hK => ?_) AllReadyH.nil
  go_simp
  refine CR.mono ?_
  rintro e Y3 ⟨rfl, h3, g3⟩
  have hS2 : Y3.heap[ab]? = some (.cells a.arr 37 (0, 0)) := (g3.block _ (Array.getElem?_eq_some_iff.1 hS).1 (.inr (.inl ⟨_, _, _, hS, rfl⟩))).trans hS
  have H3 : Hid (AcI w0 B c d Y3 (n + 1) (failB S a.id a.op)) := ⟨H2.out.gmR g3, ⟨_, h3⟩⟩
  clear h3 g3 CR
  have hS := hS2
  clear hS2
  refine hK.out _ _ hS (fun _ => ?_)
  clear hK K
  try simp only [List.getElem_toArray, List.getElem_cons_succ, List.getElem_cons_zero, Act.put, List.setIfInBounds_toArray, List.set_cons_zero, List.set_cons_succ]
  refine tk 12 (some 57) (.bool true) rfl rfl (Or.inl ⟨rfl, fun wq hSq => by go_simp⟩) (by decide +kernel) hS ?_
  simp only [Act.put, List.setIfInBounds_toArray, List.set_cons_zero, List.set_cons_succ]
  refine tk 13 (some 6) (.bool true) rfl rfl (Or.inl ⟨rfl, fun wq hSq => by first | rfl | go_simp⟩) (by decide +kernel) hS ?_
  simp only [Act.put, List.setIfInBounds_toArray, List.set_cons_zero, List.set_cons_succ]
  refine wpAnyH_done (by decide +kernel) ?_ _
  refine plain_end ?_
  clear hS
  go_wp2
  go_ret
  exact ⟨rfl, _, H3.out, fail_limB _ _ _⟩
set_option maxRecDepth 100000 in
set_option maxHeartbeats 4000000 in
theorem act_link {w0 w : World} {B c d n : Nat} {S : Bk} (h : AcI w0 B c d w n S) (hn : n ≤ 1048576) {a : Ac} (ha : AcO w B a) (hd : a.d = 3) :
    Calls Try.prog 11 #[.pointer (some ⟨c, 0, none⟩), .pointer (some ⟨d, 0, none⟩), .agg a.arr] w fun e w' => e = .returned (.bool true) ∧ ∃ S', AcI w0 B c d w' (n + 1) S' ∧ S'.lim = S.lim := by
  have F1 : Fr [] w (w.alloc (.cells a.arr 37)) := (Fr.refl _ _).alloc _
  have hx := heap_alloc_new w (.cells a.arr 37)
  have k0 : (w.alloc (.cells a.arr 37)).cell? ⟨w.heap.size, 0, none⟩ = some (.int .i64 a.d) := at_cells hx 0 a.at_d
  have HI : Hid (AcI w0 B c d (w.alloc (.cells a.arr 37)) n S ∧ TrOk (w.alloc (.cells a.arr 37)) B a.t ∧ ATOk a.t.abs ∧ W64 a.id ∧ W64 a.op ∧ W64 a.to ∧ n ≤ 1048576) := ⟨h.fr0 F1, ha.tr.fr0 F1, ha.at_, ha.id, ha.op, ha.to, hn⟩
  have HX : Hid ((w.alloc (.cells a.arr 37)).heap[w.heap.size]? = some (.cells a.arr 37 (0, 0))) := hx
  clear h ha hn F1 hx
  rw [hd] at k0
  clear hd
  go_enter Try.func11, Try.ntmps11
  go_upto_region 1 with fail
  generalize w.alloc (.cells a.arr 37) = V at *
  generalize w.heap.size = ab at *
  go_upto_region 9 with fail
  clear k0
  have hF : Fr [] V V.drew := (Fr.refl _ _).drew
  have hS : V.drew.heap[ab]? = some (.cells a.arr 37 (0, 0)) := (hF.block _ (Array.getElem?_eq_some_iff.1 HX.out).1 (by simp)).trans HX.out
  have HY : Hid (AcI w0 B c d V.drew n S ∧ TrOk V.drew B a.t) := ⟨HI.out.1.fr0 hF, HI.out.2.1.fr0 hF⟩
  clear hF HX
  refine reg_in (fun w' => w'.heap[ab]? = some (.cells a.arr 37 (0, 0))) ?_
  generalize V.drew = Y at *
  have CP := HY.out.1.aw.link (by have := HI.out.2.2.2.2.2.2; omega) HI.out.2.2.2.1 HI.out.2.2.2.2.1 HI.out.2.2.2.2.2.1
  refine tk 0 (some 60) (.pointer (some ⟨c, 0, none⟩)) rfl rfl (Or.inl ⟨rfl, fun wq hSq => by first | rfl | go_simp⟩) (by decide +kernel) hS ?_
  simp only [Act.put, List.setIfInBounds_toArray, List.set_cons_zero, List.set_cons_succ]
  refine tk 1 (some 61) (.pointer (some ⟨ab, 18, none⟩)) rfl rfl (Or.inl ⟨rfl, fun wq hSq => by first | rfl | go_simp⟩) (by decide +kernel) hS ?_
  simp only [Act.put, List.setIfInBounds_toArray, List.set_cons_zero, List.set_cons_succ]
  refine tk 2 (some 62) (.int .i64 a.id) rfl rfl (Or.inl ⟨rfl, fun wq hSq => by have q := at_cells hSq 18 a.at_n.1; go_simp⟩) (by decide +kernel) hS ?_
  simp only [Act.put, List.setIfInBounds_toArray, List.set_cons_zero, List.set_cons_succ]
  refine tk 3 (some 63) (.pointer (some ⟨ab, 19, none⟩)) rfl rfl (Or.inl ⟨rfl, fun wq hSq => by first | rfl | go_simp⟩) (by decide +kernel) hS ?_
  simp only [Act.put, List.setIfInBounds_toArray, List.set_cons_zero, List.set_cons_succ]
  refine tk 4 (some 64) (.int .i64 a.op) rfl rfl (Or.inl ⟨rfl, fun wq hSq => by have q := at_cells hSq 19 a.at_n.2.1; go_simp⟩) (by decide +kernel) hS ?_
  simp only [Act.put, List.setIfInBounds_toArray, List.set_cons_zero, List.set_cons_succ]
  refine tk 5 (some 65) (.pointer (some ⟨ab, 20, none⟩)) rfl rfl (Or.inl ⟨rfl, fun wq hSq => by first | rfl | go_simp⟩) (by decide +kernel) hS ?_
  simp only [Act.put, List.setIfInBounds_toArray, List.set_cons_zero, List.set_cons_succ]
  refine tk 6 (some 66) (.int .i64 a.to) rfl rfl (Or.inl ⟨rfl, fun wq hSq => by have q := at_cells hSq 20 a.at_n.2.2; go_simp⟩) (by decide +kernel) hS ?_
  simp only [Act.put, List.setIfInBounds_toArray, List.set_cons_zero, List.set_cons_succ]
  refine tk 8 (some 68) (.pointer (some ⟨d, 0, none⟩)) rfl rfl (Or.inl ⟨rfl, fun wq hSq => by first | rfl | go_simp⟩) (by decide +kernel) hS ?_
  simp only [Act.put, List.setIfInBounds_toArray, List.set_cons_zero, List.set_cons_succ]
  refine tk 9 (some 69) (.pointer (some ⟨ab, 18, none⟩)) rfl rfl (Or.inl ⟨rfl, fun wq hSq => by first | rfl | go_simp⟩) (by decide +kernel) hS ?_
  simp only [Act.put, List.setIfInBounds_toArray, List.set_cons_zero, List.set_cons_succ]
  refine tk 10 (some 70) (.int .i64 a.id) rfl rfl (Or.inl ⟨rfl, fun wq hSq => by have q := at_cells hSq 18 a.at_n.1; go_simp⟩) (by decide +kernel) hS ?_
  simp only [Act.put, List.setIfInBounds_toArray, List.set_cons_zero, List.set_cons_succ]
  refine tk 11 (some 71) (.pointer (some ⟨ab, 19, none⟩)) rfl rfl (Or.inl ⟨rfl, fun wq hSq => by first | rfl | go_simp⟩) (by decide +kernel) hS ?_
  simp only [Act.put, List.setIfInBounds_toArray, List.set_cons_zero, List.set_cons_succ]
  refine tk 12 (some 72) (.int .i64 a.op) rfl rfl (Or.inl ⟨rfl, fun wq hSq => by have q := at_cells hSq 19 a.at_n.2.1; go_simp⟩) (by decide +kernel) hS ?_
  simp only [Act.put, List.setIfInBounds_toArray, List.set_cons_zero, List.set_cons_succ]
  refine tk 13 (some 73) (.pointer (some ⟨ab, 20, none⟩)) rfl rfl (Or.inl ⟨rfl, fun wq hSq => by first | rfl | go_simp⟩) (by decide +kernel) hS ?_
  simp only [Act.put, List.setIfInBounds_toArray, List.set_cons_zero, List.set_cons_succ]
  refine tk 14 (some 74) (.int .i64 a.to) rfl rfl (Or.inl ⟨rfl, fun wq hSq => by have q := at_cells hSq 20 a.at_n.2.2; go_simp⟩) (by decide +kernel) hS ?_
  simp only [Act.put, List.setIfInBounds_toArray, List.set_cons_zero, List.set_cons_succ]
  refine wpAnyH_ready (rs := [7]) (by decide +kernel) (by simp) ?_
  refine AllReadyH.cons rfl (fun K hK => ?_) AllReadyH.nil
  go_simp
  refine CP.mono ?_
  rintro e Y2 ⟨rfl, h2, g2⟩
  have hS2 : Y2.heap[ab]? = some (.cells a.arr 37 (0, 0)) := (g2.block _ (Array.getElem?_eq_some_iff.1 hS).1 (.inr (.inl ⟨_, _, _, hS, rfl⟩))).trans hS
  obtain ⟨rs, hra⟩ := HY.out.1.ra
  have CR := link_r (hra.gm g2) HY.out.1.aw.ok HI.out.2.2.2.2.2.2 (Nat.le_trans HY.out.1.aw.hi g2.size) a.id a.op a.to
  have H2 : Hid (AwS w0 B c Y2 (n + 1) (linkB S a.id a.op a.to)) := h2
  clear h2 g2 hra CP
  have hS := hS2
  clear hS2
  refine hK.out _ _ hS (fun _ => ?_)
  clear hK K
  try simp only [List.getElem_toArray, List.getElem_cons_succ, List.getElem_cons_zero, Act.put, List.setIfInBounds_toArray, List.set_cons_zero, List.set_cons_succ]
  refine wpAnyH_ready (rs := [15]) (by decide +kernel) (by simp) ?_
  refine AllReadyH.cons rfl (fun K hK => ?_) AllReadyH.nil
  go_simp
  refine CR.mono ?_
  rintro e Y3 ⟨rfl, h3, g3⟩
  have hS2 : Y3.heap[ab]? = some (.cells a.arr 37 (0, 0)) := (g3.block _ (Array.getElem?_eq_some_iff.1 hS).1 (.inr (.inl ⟨_, _, _, hS, rfl⟩))).trans hS
  have H3 : Hid (AcI w0 B c d Y3 (n + 1) (linkB S a.id a.op a.to)) := ⟨H2.out.gmR g3, ⟨_, h3⟩⟩
  clear h3 g3 CR
  have hS := hS2
  clear hS2
  refine hK.out _ _ hS (fun _ => ?_)
  clear hK K
  try simp only [List.getElem_toArray, List.getElem_cons_succ, List.getElem_cons_zero, Act.put, List.setIfInBounds_toArray, List.set_cons_zero, List.set_cons_succ]
  refine tk 16 (some 76) (.bool true) rfl rfl (Or.inl ⟨rfl, fun wq hSq => by go_simp⟩) (by decide +kernel) hS ?_
  simp only [Act.put, List.setIfInBounds_toArray, List.set_cons_zero, List.set_cons_succ]
  refine tk 17 (some 6) (.bool true) rfl rfl (Or.inl ⟨rfl, fun wq hSq => by first | rfl | go_simp⟩) (by decide +kernel) hS ?_
  simp only [Act.put, List.setIfInBounds_toArray, List.set_cons_zero, List.set_cons_succ]
  refine wpAnyH_done (by decide +kernel) ?_ _
  refine plain_end ?_
  clear hS
  go_wp2
  go_ret
  exact ⟨rfl, _, H3.out, link_limB _ _ _ _⟩
set_option maxRecDepth 100000 in
set_option maxHeartbeats 4000000 in
theorem act_linked {w0 w : World} {B c d n : Nat} {S : Bk} (h : AcI w0 B c d w n S) (hn : n ≤ 1048576) {a : Ac} (ha : AcO w B a) (hd : a.d = 4) :
    Calls Try.prog 11 #[.pointer (some ⟨c, 0, none⟩), .pointer (some ⟨d, 0, none⟩), .agg a.arr] w fun e w' => e = .returned (.bool true) ∧ ∃ S', AcI w0 B c d w' (n + 1) S' ∧ S'.lim = S.lim := by
  have F1 : Fr [] w (w.alloc (.cells a.arr 37)) := (Fr.refl _ _).alloc _
  have hx := heap_alloc_new w (.cells a.arr 37)
  have k0 : (w.alloc (.cells a.arr 37)).cell? ⟨w.heap.size, 0, none⟩ = some (.int .i64 a.d) := at_cells hx 0 a.at_d
  have HI : Hid (AcI w0 B c d (w.alloc (.cells a.arr 37)) n S ∧ TrOk (w.alloc (.cells a.arr 37)) B a.t ∧ ATOk a.t.abs ∧ W64 a.id ∧ W64 a.op ∧ W64 a.to ∧ n ≤ 1048576) := ⟨h.fr0 F1, ha.tr.fr0 F1, ha.at_, ha.id, ha.op, ha.to, hn⟩
  have HX : Hid ((w.alloc (.cells a.arr 37)).heap[w.heap.size]? = some (.cells a.arr 37 (0, 0))) := hx
  clear h ha hn F1 hx
  rw [hd] at k0
  clear hd
  have k18 : (w.alloc (.cells a.arr 37)).cell? ⟨w.heap.size, 18, none⟩ = some (.int .i64 a.id) := at_cells HX.out 18 a.at_n.1
  have k19 : (w.alloc (.cells a.arr 37)).cell? ⟨w.heap.size, 19, none⟩ = some (.int .i64 a.op) := at_cells HX.out 19 a.at_n.2.1
  go_enter Try.func11, Try.ntmps11
  go_upto_region 1 with fail
  generalize w.alloc (.cells a.arr 37) = V at *
  generalize w.heap.size = ab at *
  have CP := HI.out.1.aw.linked HI.out.2.2.2.1 HI.out.2.2.2.2.1
  obtain ⟨rs, hra⟩ := HI.out.1.ra
  have HR : Hid (RA V B d rs S) := hra
  clear hra
  go_upto_region 12 with (go_at_call 17; refine CP.mono ?_; rintro e Y2 ⟨rfl, f2⟩; have q18 := f2.cell1 k18 (by simp); have q19 := f2.cell1 k19 (by simp); have CR := linked_r (HR.out.fr0 f2) HI.out.1.aw.ok HI.out.2.2.2.2.2.2 a.id a.op; have H2 := hid (HI.out.1.fr0 f2); clear f2 CP k0 k18 k19)
  go_upto_region 13 with (go_at_call 27; refine CR.mono ?_; rintro e Y3 ⟨rfl, f3⟩; have H3 : Hid (AcI w0 B c d Y3 (n + 1) S) := ⟨(H2.out.aw.fr0 f3).more (by omega), (H2.out.fr0 f3).ra⟩; clear f3 CR q18 q19)
  cases (linksF S.notes a.id a.op) with
  | none =>
    go_wp2
    go_ret
    exact ⟨rfl, _, H3.out, rfl⟩
  | some x =>
    go_wp2
    go_ret
    exact ⟨rfl, _, H3.out, rfl⟩
set_option maxRecDepth 100000 in
set_option maxHeartbeats 4000000 in
theorem act_get {w0 w : World} {B c d n : Nat} {S : Bk} (h : AcI w0 B c d w n S) (hn : n ≤ 1048576) {a : Ac} (ha : AcO w B a) (h0 : a.d ≠ 0) (h1 : a.d ≠ 1) (h2 : a.d ≠ 2) (h3 : a.d ≠ 3) (h4 : a.d ≠ 4) :
    Calls Try.prog 11 #[.pointer (some ⟨c, 0, none⟩), .pointer (some ⟨d, 0, none⟩), .agg a.arr] w fun e w' => e = .returned (.bool true) ∧ ∃ S', AcI w0 B c d w' (n + 1) S' ∧ S'.lim = S.lim := by
  have F1 : Fr [] w (w.alloc (.cells a.arr 37)) := (Fr.refl _ _).alloc _
  have hx := heap_alloc_new w (.cells a.arr 37)
  have k0 : (w.alloc (.cells a.arr 37)).cell? ⟨w.heap.size, 0, none⟩ = some (.int .i64 a.d) := at_cells hx 0 a.at_d
  have HI : Hid (AcI w0 B c d (w.alloc (.cells a.arr 37)) n S ∧ TrOk (w.alloc (.cells a.arr 37)) B a.t ∧ ATOk a.t.abs ∧ W64 a.id ∧ W64 a.op ∧ W64 a.to ∧ n ≤ 1048576) := ⟨h.fr0 F1, ha.tr.fr0 F1, ha.at_, ha.id, ha.op, ha.to, hn⟩
  have HX : Hid ((w.alloc (.cells a.arr 37)).heap[w.heap.size]? = some (.cells a.arr 37 (0, 0))) := hx
  clear h ha hn F1 hx
  have b0 : (a.d == 0) = false := beq_int_false h0
  have b1 : (a.d == 1) = false := beq_int_false h1
  have b2 : (a.d == 2) = false := beq_int_false h2
  have b3 : (a.d == 3) = false := beq_int_false h3
  have b4 : (a.d == 4) = false := beq_int_false h4
  clear h0 h1 h2 h3 h4
  go_enter Try.func11, Try.ntmps11
  go_upto_region 1 with fail
  generalize w.alloc (.cells a.arr 37) = V at *
  generalize w.heap.size = ab at *
  have HK : Hid (∀ w', Fr [] V w' → w'.rangeAt ab 1 (kc a.t.k).toList) := fun w' f => Ac.key_range ((f.block _ (Array.getElem?_eq_some_iff.1 HX.out).1 (by simp)).trans HX.out)
  have F0 : Hid (Fr [] V V) := Fr.refl _ _
  have CP := HI.out.1.aw.get (k := a.t.k) HI.out.2.2.1.kw
  generalize hgo : getB S a.t.k = go at CP
  have HGO : Hid (getB S a.t.k = go) := hgo
  clear hgo
  generalize a.d = ad at *
  go_upto_region 14 with fail
  clear k0 b0 b1 b2 b3 b4
  go_upto_region 15 with (first
    | refine wpList_ld29 rfl (.tmp 112) rfl ab 1 rfl a.t.k (HK.out _ F0.out) ?_
    | (go_at_call 15; refine CP.mono ?_; rintro e w5 ⟨t', rfl, ha', ht', f5⟩; have HA : Hid ((w5.alloc (.cells #[.int .i64 0, .int .i64 0, .int .i64 0, .int .i64 0, .int .i64 0, .int .i64 0, .int .i64 0, .int .i64 0, .int .i64 0, .int .i64 0, .int .i64 0, .int .i64 0, .slice none 0 0, .slice none 0 0, .slice none 0 0, .slice none 0 0, .slice none 0 0] 35)).heap[w5.heap.size]? = some (.cells #[.int .i64 0, .int .i64 0, .int .i64 0, .int .i64 0, .int .i64 0, .int .i64 0, .int .i64 0, .int .i64 0, .int .i64 0, .int .i64 0, .int .i64 0, .int .i64 0, .slice none 0 0, .slice none 0 0, .slice none 0 0, .slice none 0 0, .slice none 0 0] 35 (0, 0))) := heap_alloc_new w5 _; have HQ : Hid (t'.abs = (go.map (·.2)).getD tr0.abs ∧ TrOk w5 B t' ∧ Fr [] V w5) := ⟨ha', ht', f5⟩; clear ha' ht' f5 CP)
    | refine wpList_store_row rfl 35 (.tmp 11) (.tmp 115) rfl w5.heap.size t'.arr rfl rfl 35 _ HA.out (by rw [t'.arr_size]; exact info35) (by rw [t'.arr_size]; rfl) t'.arr_one ?_)
  have FB : Fr [] w5 ((w5.alloc (.cells #[.int .i64 0, .int .i64 0, .int .i64 0, .int .i64 0, .int .i64 0, .int .i64 0, .int .i64 0, .int .i64 0, .int .i64 0, .int .i64 0, .int .i64 0, .int .i64 0, .slice none 0 0, .slice none 0 0, .slice none 0 0, .slice none 0 0, .slice none 0 0] 35)).setRow w5.heap.size t'.arr) := ((Fr.refl [] w5).alloc _).setRow (.inr (Nat.le_refl _)) _
  have HB : Hid (((w5.alloc (.cells #[.int .i64 0, .int .i64 0, .int .i64 0, .int .i64 0, .int .i64 0, .int .i64 0, .int .i64 0, .int .i64 0, .int .i64 0, .int .i64 0, .int .i64 0, .int .i64 0, .slice none 0 0, .slice none 0 0, .slice none 0 0, .slice none 0 0, .slice none 0 0] 35)).setRow w5.heap.size t'.arr).heap[w5.heap.size]? = some (.cells t'.arr 35 (0, 0))) := setRow_heap _ _ _ t'.arr _ _ HA.out
  have HW : Hid (Fr [] V ((w5.alloc (.cells #[.int .i64 0, .int .i64 0, .int .i64 0, .int .i64 0, .int .i64 0, .int .i64 0, .int .i64 0, .int .i64 0, .int .i64 0, .int .i64 0, .int .i64 0, .int .i64 0, .slice none 0 0, .slice none 0 0, .slice none 0 0, .slice none 0 0, .slice none 0 0] 35)).setRow w5.heap.size t'.arr) ∧ TrOk ((w5.alloc (.cells #[.int .i64 0, .int .i64 0, .int .i64 0, .int .i64 0, .int .i64 0, .int .i64 0, .int .i64 0, .int .i64 0, .int .i64 0, .int .i64 0, .int .i64 0, .int .i64 0, .slice none 0 0, .slice none 0 0, .slice none 0 0, .slice none 0 0, .slice none 0 0] 35)).setRow w5.heap.size t'.arr) B t') := ⟨HQ.out.2.2.trans FB, HQ.out.2.1.fr0 FB⟩
  clear FB HA F0
  generalize (w5.alloc (.cells #[.int .i64 0, .int .i64 0, .int .i64 0, .int .i64 0, .int .i64 0, .int .i64 0, .int .i64 0, .int .i64 0, .int .i64 0, .int .i64 0, .int .i64 0, .int .i64 0, .slice none 0 0, .slice none 0 0, .slice none 0 0, .slice none 0 0, .slice none 0 0] 35)).setRow w5.heap.size t'.arr = X at *
  generalize w5.heap.size = bx at *
  obtain ⟨rs, hra⟩ := HI.out.1.ra
  have CR := get_r (hra.fr0 HW.out.1) HI.out.1.aw.ok (Nat.le_trans HI.out.1.aw.hi HW.out.1.size) (k := a.t.k) HI.out.2.2.1.kw
  rw [HGO.out] at CR
  clear hra
  go_upto_region 16 with (first
    | refine wpList_ld29 rfl (.tmp 121) rfl ab 1 rfl a.t.k (HK.out _ HW.out.1) ?_
    | (go_at_call 28; refine CR.mono ?_; rintro e w6 ⟨u', rfl, ha', ht', f6⟩; have HA : Hid ((w6.alloc (.cells #[.int .i64 0, .int .i64 0, .int .i64 0, .int .i64 0, .int .i64 0, .int .i64 0, .int .i64 0, .int .i64 0, .int .i64 0, .int .i64 0, .int .i64 0, .int .i64 0, .slice none 0 0, .slice none 0 0, .slice none 0 0, .slice none 0 0, .slice none 0 0] 35)).heap[w6.heap.size]? = some (.cells #[.int .i64 0, .int .i64 0, .int .i64 0, .int .i64 0, .int .i64 0, .int .i64 0, .int .i64 0, .int .i64 0, .int .i64 0, .int .i64 0, .int .i64 0, .int .i64 0, .slice none 0 0, .slice none 0 0, .slice none 0 0, .slice none 0 0, .slice none 0 0] 35 (0, 0))) := heap_alloc_new w6 _; have HU : Hid (u'.abs = (go.map (·.2)).getD tr0.abs ∧ TrOk w6 B u' ∧ Fr [] X w6) := ⟨ha', ht', f6⟩; clear ha' ht' f6 CR)
    | refine wpList_store_row rfl 35 (.tmp 14) (.tmp 124) rfl w6.heap.size u'.arr rfl rfl 35 _ HA.out (by rw [u'.arr_size]; exact info35) (by rw [u'.arr_size]; rfl) u'.arr_one ?_)
  have FB : Fr [] w6 ((w6.alloc (.cells #[.int .i64 0, .int .i64 0, .int .i64 0, .int .i64 0, .int .i64 0, .int .i64 0, .int .i64 0, .int .i64 0, .int .i64 0, .int .i64 0, .int .i64 0, .int .i64 0, .slice none 0 0, .slice none 0 0, .slice none 0 0, .slice none 0 0, .slice none 0 0] 35)).setRow w6.heap.size u'.arr) := ((Fr.refl [] w6).alloc _).setRow (.inr (Nat.le_refl _)) _
  have FC := HU.out.2.2.trans FB
  have HB2 : Hid (((w6.alloc (.cells #[.int .i64 0, .int .i64 0, .int .i64 0, .int .i64 0, .int .i64 0, .int .i64 0, .int .i64 0, .int .i64 0, .int .i64 0, .int .i64 0, .int .i64 0, .int .i64 0, .slice none 0 0, .slice none 0 0, .slice none 0 0, .slice none 0 0, .slice none 0 0] 35)).setRow w6.heap.size u'.arr).heap[bx]? = some (.cells t'.arr 35 (0, 0))) := (FC.block _ (Array.getElem?_eq_some_iff.1 HB.out).1 (by simp)).trans HB.out
  have HB4 : Hid (((w6.alloc (.cells #[.int .i64 0, .int .i64 0, .int .i64 0, .int .i64 0, .int .i64 0, .int .i64 0, .int .i64 0, .int .i64 0, .int .i64 0, .int .i64 0, .int .i64 0, .int .i64 0, .slice none 0 0, .slice none 0 0, .slice none 0 0, .slice none 0 0, .slice none 0 0] 35)).setRow w6.heap.size u'.arr).heap[w6.heap.size]? = some (.cells u'.arr 35 (0, 0))) := setRow_heap _ _ _ u'.arr _ _ HA.out
  have hat : ATOk t'.abs := by
    rw [HQ.out.1, ← HGO.out]
    unfold getB
    cases e : S.rows.find? (fun r => decide (r.2.k = a.t.k)) with
    | none => exact ofT_at (n := 0) (w64_small (by decide) (by decide))
    | some r => exact HI.out.1.aw.ok.ok r (List.mem_of_find?_eq_some e)
  have CS := same16_any (HW.out.2.fr0 FC) (HU.out.2.1.fr0 FB) (HQ.out.1.trans HU.out.1.symm) hat
  have H4 : Hid (AcI w0 B c d ((w6.alloc (.cells #[.int .i64 0, .int .i64 0, .int .i64 0, .int .i64 0, .int .i64 0, .int .i64 0, .int .i64 0, .int .i64 0, .int .i64 0, .int .i64 0, .int .i64 0, .int .i64 0, .slice none 0 0, .slice none 0 0, .slice none 0 0, .slice none 0 0, .slice none 0 0] 35)).setRow w6.heap.size u'.arr) n S) := HI.out.1.fr0 (HW.out.1.trans FC)
  clear FB FC HA HB hat
  generalize (w6.alloc (.cells #[.int .i64 0, .int .i64 0, .int .i64 0, .int .i64 0, .int .i64 0, .int .i64 0, .int .i64 0, .int .i64 0, .int .i64 0, .int .i64 0, .int .i64 0, .int .i64 0, .slice none 0 0, .slice none 0 0, .slice none 0 0, .slice none 0 0, .slice none 0 0] 35)).setRow w6.heap.size u'.arr = X2 at *
  generalize w6.heap.size = bz at *
  cases go with
  | none =>
    go_wp2_with (first
      | refine wpList_ld35w (by rfl) (.tmp 11) rfl bx rfl t'.arr t'.arr_size HB2.out ?_
      | refine wpList_ld35w (by rfl) (.tmp 14) rfl bz rfl u'.arr u'.arr_size HB4.out ?_
      | (go_at_call 16; refine CS.mono ?_; rintro e w7 ⟨rfl, f7⟩; have H5 : Hid (AcI w0 B c d w7 (n + 1) S) := ⟨(H4.out.aw.fr0 f7).more (by omega), (H4.out.fr0 f7).ra⟩; clear f7 CS))
    go_ret
    exact ⟨rfl, _, H5.out, rfl⟩
  | some r =>
    generalize hr1 : ((some r).map (fun x : Int × AT => x.1)).getD 0 = r1
    clear hr1
    go_wp2_with (first
      | refine wpList_ld35w (by rfl) (.tmp 11) rfl bx rfl t'.arr t'.arr_size HB2.out ?_
      | refine wpList_ld35w (by rfl) (.tmp 14) rfl bz rfl u'.arr u'.arr_size HB4.out ?_
      | (go_at_call 16; refine CS.mono ?_; rintro e w7 ⟨rfl, f7⟩; have H5 : Hid (AcI w0 B c d w7 (n + 1) S) := ⟨(H4.out.aw.fr0 f7).more (by omega), (H4.out.fr0 f7).ra⟩; clear f7 CS))
    go_ret
    exact ⟨rfl, _, H5.out, rfl⟩
theorem act_any {w0 w : World} {B c d n : Nat} {S : Bk} (h : AcI w0 B c d w n S) (hn : n ≤ 1048576) {a : Ac} (ha : AcO w B a) :
    Calls Try.prog 11 #[.pointer (some ⟨c, 0, none⟩), .pointer (some ⟨d, 0, none⟩), .agg a.arr] w fun e w' => e = .returned (.bool true) ∧ ∃ S', AcI w0 B c d w' (n + 1) S' ∧ S'.lim = S.lim := by
  by_cases h0 : a.d = 0
  · exact act_put h hn ha h0
  by_cases h1 : a.d = 1
  · exact act_drop h hn ha h1
  by_cases h2 : a.d = 2
  · exact act_fail h hn ha h2
  by_cases h3 : a.d = 3
  · exact act_link h hn ha h3
  by_cases h4 : a.d = 4
  · exact act_linked h hn ha h4
  exact act_get h hn ha h0 h1 h2 h3 h4
end Go.Proofs.Ytnhjplfdfbbihaa
