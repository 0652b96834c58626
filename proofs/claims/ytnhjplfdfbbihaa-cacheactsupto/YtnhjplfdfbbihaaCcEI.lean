/-
  The document counts, leads on, tells where it leads; condition: the cache lies as told.
-/
import Derived.Test.YtnhjplfdfbbihaaCcD
namespace Go.Proofs.Ytnhjplfdfbbihaa
open Go.RowKit Go.Shelf Go.Maps Go.ChangeShapes
set_option linter.unusedVariables false
set_option linter.unusedSimpArgs false
set_option maxRecDepth 100000 in
set_option maxHeartbeats 4000000 in
theorem fail_r {w : World} {B c n : Nat} {rs : List Rt} {S : Bk} (h : RA w B c rs S) (ho : Ok S n) (hn : n ≤ 1048576) (hBw : B ≤ w.heap.size) (i p : Int) :
    Calls Try.prog 25 #[.pointer (some ⟨c, 0, none⟩), .int .i64 i, .int .i64 p] w fun e w' => e = .returned (.int .i64 (failR S i p)) ∧ RA w' B c rs (failB S i p) ∧ Gm B pR false w w' := by
  have C := held_r h ho i
  have habs := h.abs
  cases e1 : heldB S i with
  | false =>
    rw [e1] at C
    have HR : Hid (failR S i p = 0 ∧ failB S i p = S) := by refine ⟨?_, ?_⟩ <;> simp [failR, failB, e1]
    have HC : Hid (RA w B c rs S) := h
    clear h ho e1 hn hBw
    go_enter Try.func25, Try.ntmps25
    go_wp2_with (go_at_call 38; refine C.mono ?_; rintro e w1 ⟨rfl, f1⟩)
    go_ret
    exact ⟨by rw [HR.out.1]; rfl, by rw [HR.out.2]; exact HC.out.fr0 f1, Gm.ofFr0 f1⟩
  | true =>
    rw [e1] at C
    have hcn : 0 ≤ cntN S.notes i p ∧ cntN S.notes i p ≤ 1048576 := by
      unfold cntN
      cases e : nfnd S.notes i p with
      | none => simp
      | some x => have := ho.nf x (List.mem_of_find?_eq_some e); simp only [Option.getD_some]; omega
    have HR : Hid (failR S i p = cntN S.notes i p + 1 ∧ failB S i p = { S with notes := updN S.notes i p failU }) := ⟨by simp [failR, e1], by simp [failB, e1]⟩
    have HC : Hid (RA w B c rs S ∧ B ≤ w.heap.size ∧ S.notes.length ≤ 1048576) := ⟨h, hBw, by have := ho.nn; omega⟩
    clear h ho e1 hn hBw
    go_enter Try.func25, Try.ntmps25
    go_upto_region 3 with (go_at_call 38; refine C.mono ?_; rintro e w1 ⟨rfl, f1⟩; have HF : Hid (Fr [] w w1) := f1; clear C f1)
    obtain ⟨rv, nv, pa, pcap, pf, used, hp, hpk, hus⟩ := (HC.out.1.fr0 HF.out).ex
    have CN := note_any hp (Nat.le_trans HC.out.2.1 HF.out.size) HC.out.2.2 i p
    have HPK : Hid (pf.drop used = S.pk ∧ used ≤ pf.length ∧ rs.map absR = S.rows) := ⟨hpk, hus, habs⟩
    clear hp hpk hus habs
    go_upto_region 4 with (go_at_call 39; refine CN.mono ?_; rintro e w2 ⟨g, j, rfl, hq⟩; have HQ : Hid (NoteQ B c rv S.lim pa pcap pf used S.last S.top rs S.notes i p w1 w2 g j) := hq; clear hq CN)
    obtain ⟨ns', cap, x, hP2, hx, hxe, hu, hg2⟩ := HQ.out
    have hxf : x.f = cntN S.notes i p := by rw [hxe]; rfl
    have k2 : w2.cell? ⟨g, j * 4 + 2, none⟩ = some (.int .i64 x.f) := rowN_at hP2.notes hx 2 _ rfl
    obtain ⟨_, cur, hgb⟩ := own_block hP2.notes
    have z2 : w2.frozen? ⟨g, j * 4 + 2, none⟩ = false := frz hgb
    obtain ⟨hP3, hg3⟩ := hP2.setNote hx 2 (by decide) (.int .i64 (x.f + 1)) (y := failU x) rfl
    rw [← hu failU] at hP3
    have hlen2 : (updN S.notes i p failU).length = ns'.length := by rw [hu failU, List.length_set]
    rw [← hlen2] at hP3
    have HF3 : Hid (RA (w2.setCell ⟨g, j * 4 + 2, none⟩ (.int .i64 (x.f + 1))) B c rs { S with notes := updN S.notes i p failU } ∧ Gm B pR false w (w2.setCell ⟨g, j * 4 + 2, none⟩ (.int .i64 (x.f + 1)))) := ⟨⟨⟨_, _, _, _, _, _, hP3, HPK.out.1, HPK.out.2.1⟩, HPK.out.2.2⟩, ((Gm.ofFr0 HF.out).trans hg2).trans hg3⟩
    have k3 : (w2.setCell ⟨g, j * 4 + 2, none⟩ (.int .i64 (x.f + 1))).cell? ⟨g, j * 4 + 2, none⟩ = some (.int .i64 (x.f + 1)) := by
      refine at_cells (set_blk hgb) (j * 4 + 2) ?_
      have : cur[j * 4 + 2]? = some (.int .i64 x.f) := by simpa [World.cell?, hgb] using k2
      have hlt := (Array.getElem?_eq_some_iff.1 this).1
      simp [hlt]
    have hq0 : 0 ≤ x.f := by rw [hxf]; exact hcn.1
    have hq1 : x.f ≤ 1048576 := by rw [hxf]; exact hcn.2
    have HXF : Hid (x.f = cntN S.notes i p) := hxf
    clear hP2 hx hxe hu hg2 hxf hgb hP3 hg3 hlen2 hcn HQ HF HC HPK
    generalize x.f = q at *
    go_upto_region 5 with fail
    clear k2 z2
    generalize w2.setCell ⟨g, j * 4 + 2, none⟩ (.int .i64 (q + 1)) = w3 at *
    go_wp2
    go_ret
    exact ⟨by rw [HR.out.1, ← HXF.out]; rfl, by rw [HR.out.2]; exact HF3.out.1, HF3.out.2⟩
set_option maxRecDepth 100000 in
set_option maxHeartbeats 4000000 in
theorem link_r {w : World} {B c n : Nat} {rs : List Rt} {S : Bk} (h : RA w B c rs S) (ho : Ok S n) (hn : n ≤ 1048576) (hBw : B ≤ w.heap.size) (i p t : Int) :
    Calls Try.prog 26 #[.pointer (some ⟨c, 0, none⟩), .int .i64 i, .int .i64 p, .int .i64 t] w fun e w' => e = .returned (.int .i64 (linkR S i p t)) ∧ RA w' B c rs (linkB S i p t) ∧ Gm B pR false w w' := by
  have C : ∀ j w', Fr [] w w' → Calls Try.prog 38 #[.pointer (some ⟨c, 0, none⟩), .int .i64 j] w' fun e w2 => e = .returned (.bool (heldB S j)) ∧ Fr [] w' w2 := fun j w' f => held_r (h.fr0 f) ho j
  have F0 : Fr [] w w := Fr.refl _ _
  have HC : Hid (RA w B c rs S ∧ B ≤ w.heap.size ∧ S.notes.length ≤ 1048576) := ⟨h, hBw, by have := ho.nn; omega⟩
  have hno : heldB S i = false ∨ heldB S t = false ∨ p < 0 → linkB S i p t = S := fun hh => by
    unfold linkB
    rw [if_neg]
    rintro hx
    simp only [Bool.and_eq_true, decide_eq_true_eq] at hx
    rcases hh with hh | hh | hh
    · rw [hh] at hx; exact absurd hx.1.1 (by simp)
    · rw [hh] at hx; exact absurd hx.1.2 (by simp)
    · omega
  clear h ho hn hBw
  cases e1 : heldB S i with
  | false =>
    have HR : Hid (linkR S i p t = 3 ∧ linkB S i p t = S) := ⟨by unfold linkR; simp [e1], hno (.inl e1)⟩
    have Ci := C i; rw [e1] at Ci
    clear C e1 hno
    go_enter Try.func26, Try.ntmps26
    go_wp2_with (go_at_call 38; refine (Ci _ (by assumption)).mono ?_; rintro e w1 ⟨rfl, f1⟩)
    go_ret
    exact ⟨by rw [HR.out.1]; rfl, by rw [HR.out.2]; exact HC.out.1.fr0 f1, Gm.ofFr0 f1⟩
  | true =>
    have Ci := C i; rw [e1] at Ci
    cases e2 : heldB S t with
    | false =>
      have HR : Hid (linkR S i p t = 3 ∧ linkB S i p t = S) := ⟨by unfold linkR; simp [e2], hno (.inr (.inl e2))⟩
      have Ct := C t; rw [e2] at Ct
      clear C e1 e2 hno
      go_enter Try.func26, Try.ntmps26
      go_wp2_with (first
        | (go_at_call 38; refine (Ci _ (by assumption)).mono ?_; rintro e w1 ⟨rfl, f1⟩; clear Ci)
        | (go_at_call 38; refine (Ct _ (by assumption)).mono ?_; rintro e w2 ⟨rfl, f2⟩; clear Ct))
      go_ret
      exact ⟨by rw [HR.out.1]; rfl, by rw [HR.out.2]; exact HC.out.1.fr0 (f1.trans f2), Gm.ofFr0 (f1.trans f2)⟩
    | true =>
      have Ct := C t; rw [e2] at Ct
      by_cases hneg : p < 0
      · have HR : Hid (linkR S i p t = 1 ∧ linkB S i p t = S) := ⟨by unfold linkR; simp [e1, e2, hneg], hno (.inr (.inr hneg))⟩
        clear C e1 e2 hno
        go_enter Try.func26, Try.ntmps26
        go_wp2_with (first
          | (go_at_call 38; refine (Ci _ (by assumption)).mono ?_; rintro e w1 ⟨rfl, f1⟩; clear Ci)
          | (go_at_call 38; refine (Ct _ (by assumption)).mono ?_; rintro e w2 ⟨rfl, f2⟩; clear Ct))
        go_ret
        exact ⟨by rw [HR.out.1]; rfl, by rw [HR.out.2]; exact HC.out.1.fr0 (f1.trans f2), Gm.ofFr0 (f1.trans f2)⟩
      · have HR : Hid (linkR S i p t = 0 ∧ linkB S i p t = { S with notes := updN S.notes i p (linkU t) }) := by
          refine ⟨?_, ?_⟩
          · unfold linkR; simp [e1, e2, hneg]
          · unfold linkB; rw [if_pos]; simp only [e1, e2, Bool.and_self, Bool.true_and, decide_eq_true_eq]; omega
        clear C e1 e2 hno
        go_enter Try.func26, Try.ntmps26
        go_upto_region 5 with (first
          | (go_at_call 38; refine (Ci _ (by assumption)).mono ?_; rintro e w1 ⟨rfl, f1⟩; clear Ci)
          | (go_at_call 38; refine (Ct _ (by assumption)).mono ?_; rintro e w2 ⟨rfl, f2⟩; clear Ct))
        have HF : Hid (Fr [] w w2) := f1.trans f2
        have habs := HC.out.1.abs
        obtain ⟨rv, nv, pa, pcap, pf, used, hp, hpk, hus⟩ := (HC.out.1.fr0 HF.out).ex
        have CN := note_any hp (Nat.le_trans HC.out.2.1 HF.out.size) HC.out.2.2 i p
        have HPK : Hid (pf.drop used = S.pk ∧ used ≤ pf.length ∧ rs.map absR = S.rows) := ⟨hpk, hus, habs⟩
        clear hp hpk hus habs f1 f2 F0
        go_upto_region 6 with (go_at_call 39; refine CN.mono ?_; rintro e w3 ⟨g, j, rfl, hq⟩; have HQ : Hid (NoteQ B c rv S.lim pa pcap pf used S.last S.top rs S.notes i p w2 w3 g j) := hq; clear hq CN)
        obtain ⟨ns', cap, x, hP2, hx, hxe, hu, hg2⟩ := HQ.out
        have k2 : w3.cell? ⟨g, j * 4 + 3, none⟩ = some (.int .i64 x.to) := rowN_at hP2.notes hx 3 _ rfl
        obtain ⟨_, cur, hgb⟩ := own_block hP2.notes
        have z2 : w3.frozen? ⟨g, j * 4 + 3, none⟩ = false := frz hgb
        obtain ⟨hP3, hg3⟩ := hP2.setNote hx 3 (by decide) (.int .i64 t) (y := linkU t x) rfl
        rw [← hu (linkU t)] at hP3
        have hlen2 : (updN S.notes i p (linkU t)).length = ns'.length := by rw [hu (linkU t), List.length_set]
        rw [← hlen2] at hP3
        have HF3 : Hid (RA (w3.setCell ⟨g, j * 4 + 3, none⟩ (.int .i64 t)) B c rs { S with notes := updN S.notes i p (linkU t) } ∧ Gm B pR false w (w3.setCell ⟨g, j * 4 + 3, none⟩ (.int .i64 t))) := ⟨⟨⟨_, _, _, _, _, _, hP3, HPK.out.1, HPK.out.2.1⟩, HPK.out.2.2⟩, ((Gm.ofFr0 HF.out).trans hg2).trans hg3⟩
        clear hP2 hx hxe hu hg2 hgb hP3 hg3 hlen2 HQ HF HC HPK
        generalize x.to = xo at *
        go_wp2
        go_ret
        exact ⟨by rw [HR.out.1]; rfl, by rw [HR.out.2]; exact HF3.out.1, HF3.out.2⟩
end Go.Proofs.Ytnhjplfdfbbihaa
namespace Go.Proofs.Ytnhjplfdfbbihaa
open Go.RowKit Go.Shelf Go.Maps Go.ChangeShapes
set_option linter.unusedVariables false
set_option linter.unusedSimpArgs false
theorem nfnd_apart {L : List Nt} (h : L.Pairwise (fun a b => ¬ (a.id = b.id ∧ a.op = b.op))) {q : Nat} {x : Nt} (hx : L[q]? = some x) : nfnd L x.id x.op = some x := by
  refine (updN_at (u := id) hx ⟨rfl, rfl⟩ (fun j y hj hy hm => ?_)).2
  obtain ⟨h1, h2⟩ := List.getElem?_eq_some_iff.1 hx
  obtain ⟨h3, h4⟩ := List.getElem?_eq_some_iff.1 hy
  have := List.pairwise_iff_getElem.1 h j q h3 h1 hj
  rw [h2, h4] at this
  exact this hm
def ntc (x : Nt) : Array Value := x.cl.toArray
theorem ntc_size (x : Nt) : (ntc x).size = 4 := rfl
theorem ntc_one (x : Nt) : (ntc x).all (·.oneCell') = true := by simp [ntc, Nt.cl, Value.oneCell']
theorem wpList_ldN {ops : Array Oper} {rest : List Oper} {o : Oper} {a : Act} {w : World} {Q : Exit → Act → World → Prop} (hgd : o.guard = none) (x : Operand) (ho : o.op = .load 101 x)
    (b off : Nat) (hx : a.eval x = .pointer (some ⟨b, off, none⟩)) (y : Nt) (hc : w.rangeAt b off y.cl)
    (h : wpList Try.prog ops Q rest (a.put o.dst (.agg (ntc y))) w) : wpList Try.prog ops Q (o :: rest) a w :=
  wpList_load_mid hgd 101 x ho b off hx y.cl _ hc Try.underlying101 rfl (by rw [info101]; rfl) h
set_option maxRecDepth 100000 in
set_option maxHeartbeats 4000000 in
theorem linked_r {w : World} {B c n : Nat} {rs : List Rt} {S : Bk} (h : RA w B c rs S) (ho : Ok S n) (hn : n ≤ 1048576) (i p : Int) :
    Calls Try.prog 27 #[.pointer (some ⟨c, 0, none⟩), .int .i64 i, .int .i64 p] w fun e w' => e = .returned (.tuple #[.int .i64 ((linksF S.notes i p).getD 0), .bool (linksF S.notes i p).isSome]) ∧ Fr [] w w' := by
  obtain ⟨rv, nv, pa, pcap, pf, used, hp, _⟩ := h.ex
  obtain ⟨na, nc, rfl, _⟩ := own_slice hp.notes
  have k1 : w.cell? ⟨c, 1, none⟩ = some (.slice na S.notes.length nc) := at_cells hp.blk 1 rfl
  obtain ⟨ns, hns⟩ : ∃ ns, ns = S.notes := ⟨_, rfl⟩
  have hap := ho.apart
  have hlen : S.notes.length ≤ 1048576 := by have := ho.nn; omega
  have hO := hp.notes
  rw [← hns] at hap hlen k1 hO ⊢
  have HO : Hid (w.ownsRow B 101 4 (.slice na ns.length nc) ns.length (flatN ns) ∧ ns.Pairwise (fun a b => ¬ (a.id = b.id ∧ a.op = b.op))) := ⟨hO, hap⟩
  have hlI : (ns.length : Int) ≤ 1048576 := by omega
  have F0 : Hid (Fr [] w w) := Fr.refl _ _
  clear h hp hap hlen hO hns ho hn
  go_enter Try.func27, Try.ntmps27
  go_wp2
  go_loopw [15] (fun i' wr => ∃ q : Nat, q ≤ ns.length ∧ i' = .int .i64 q ∧ Hid (Fr [] w wr ∧ ∀ j y, j < q → ns[j]? = some y → ¬ (y.id = i ∧ y.op = p ∧ y.to ≠ 0))) (fun i _ => ns.length - (intOf i).toNat)
  case atStart => exact ⟨0, Nat.zero_le _, rfl, F0.out, fun j y hj => by omega⟩
  case round =>
    obtain ⟨q, hq, rfl, F⟩ := hrel
    clear F0
    by_cases hlt : q < ns.length
    · have hltI : (q : Int) < ns.length := by omega
      obtain ⟨x, hx⟩ : ∃ x, ns[q]? = some x := ⟨_, List.getElem?_eq_getElem hlt⟩
      obtain ⟨g, rfl⟩ : ∃ g, na = some ⟨g, 0, none⟩ := by
        obtain ⟨g, c', e1, _⟩ := own_cells HO.out.1 (j := q * 4) (List.getElem?_eq_getElem (by rw [flatN_len]; omega))
        cases e1; exact ⟨g, rfl⟩
      have R1 : Hid (wr.rangeAt g (q * 4) x.cl) := rowN_at (own_fr HO.out.1 F.out.1 (by simp)) hx
      have bA := heap_alloc_new wr (.cells #[.int .i64 0, .int .i64 0, .int .i64 0, .int .i64 0] 101)
      have FB : Fr [] wr ((wr.alloc (.cells #[.int .i64 0, .int .i64 0, .int .i64 0, .int .i64 0] 101)).setRow wr.heap.size (ntc x)) := ((Fr.refl _ _).alloc _).setRow (.inr (Nat.le_refl _)) _
      have bB := setRow_heap (wr.alloc (.cells #[.int .i64 0, .int .i64 0, .int .i64 0, .int .i64 0] 101)) wr.heap.size _ (ntc x) _ _ bA
      have HA : Hid ((wr.alloc (.cells #[.int .i64 0, .int .i64 0, .int .i64 0, .int .i64 0] 101)).heap[wr.heap.size]? = some (.cells #[.int .i64 0, .int .i64 0, .int .i64 0, .int .i64 0] 101 (0, 0))) := bA
      have c0 : ((wr.alloc (.cells #[.int .i64 0, .int .i64 0, .int .i64 0, .int .i64 0] 101)).setRow wr.heap.size (ntc x)).cell? ⟨wr.heap.size, 0, none⟩ = some (.int .i64 x.id) := at_cells bB 0 rfl
      have c1 : ((wr.alloc (.cells #[.int .i64 0, .int .i64 0, .int .i64 0, .int .i64 0] 101)).setRow wr.heap.size (ntc x)).cell? ⟨wr.heap.size, 1, none⟩ = some (.int .i64 x.op) := at_cells bB 1 rfl
      have c3 : ((wr.alloc (.cells #[.int .i64 0, .int .i64 0, .int .i64 0, .int .i64 0] 101)).setRow wr.heap.size (ntc x)).cell? ⟨wr.heap.size, 3, none⟩ = some (.int .i64 x.to) := at_cells bB 3 rfl
      have HF : Hid (Fr [] w ((wr.alloc (.cells #[.int .i64 0, .int .i64 0, .int .i64 0, .int .i64 0] 101)).setRow wr.heap.size (ntc x))) := F.out.1.trans FB
      have HR : Hid (ns[q]? = some x ∧ ∀ j y, j < q → ns[j]? = some y → ¬ (y.id = i ∧ y.op = p ∧ y.to ≠ 0)) := ⟨hx, F.out.2⟩
      clear bA bB FB hx F
      go_upto_region 4 with (first
        | refine wpList_ldN rfl (.tmp 17) rfl g (q * 4) rfl x R1.out ?_
        | refine wpList_store_row rfl 101 (.tmp 9) (.tmp 18) rfl wr.heap.size (ntc x) rfl rfl 101 _ HA.out (by rw [info101]; rfl) rfl (ntc_one x) ?_)
      clear R1 HA
      generalize (wr.alloc (.cells #[.int .i64 0, .int .i64 0, .int .i64 0, .int .i64 0] 101)).setRow wr.heap.size (ntc x) = X at *
      generalize wr.heap.size = bx at *
      by_cases hm : x.id = i ∧ x.op = p ∧ x.to ≠ 0
      · have HL : Hid (linksF ns i p = some x.to) := by
          show linksF ns i p = some x.to
          unfold linksF
          rw [← hm.1, ← hm.2.1, nfnd_apart HO.out.2 HR.out.1]
          simp [numO, hm.2.2]
        obtain ⟨h1, h2, h3⟩ := hm
        rw [h1] at c0
        rw [h2] at c1
        have h4 : (x.to == 0) = false := beq_int_false h3
        clear HR h1 h2 h3
        generalize x.to = xt at *
        go_wp2
        exact bodyPost_ret (results_tmp2 rfl _ _ _) rfl ⟨by rw [HL.out]; rfl, HF.out⟩
      · have HN : Hid (Fr [] w X ∧ ∀ j y, j < q + 1 → ns[j]? = some y → ¬ (y.id = i ∧ y.op = p ∧ y.to ≠ 0)) := ⟨HF.out, fun j y hj hy => by
          rcases Nat.lt_or_ge j q with h | h
          · exact HR.out.2 j y h hy
          · obtain rfl : j = q := by omega
            rw [HR.out.1] at hy
            cases hy
            exact hm⟩
        generalize x.id = xi at *
        generalize x.op = xo at *
        generalize x.to = xt at *
        clear HR HF
        by_cases h1 : xi = i
        · by_cases h2 : xo = p
          · have h3 : xt = 0 := by
              rcases Decidable.em (xt = 0) with h | h
              · exact h
              · exact absurd ⟨h1, h2, h⟩ hm
            rw [h1] at c0
            rw [h2] at c1
            rw [h3] at c3
            clear hm h1 h2 h3
            go_wp2
            go_roundw
            case rel => exact ⟨q + 1, hlt, by go_num, HN⟩
            case measure => simp [intOf]; omega
          · have hbq : (xo == p) = false := beq_int_false h2
            rw [h1] at c0
            clear hm h1 h2
            go_wp2
            go_roundw
            case rel => exact ⟨q + 1, hlt, by go_num, HN⟩
            case measure => simp [intOf]; omega
        · have hbq : (xi == i) = false := beq_int_false h1
          clear hm h1
          go_wp2
          go_roundw
          case rel => exact ⟨q + 1, hlt, by go_num, HN⟩
          case measure => simp [intOf]; omega
    · obtain rfl : q = ns.length := by omega
      have HL : Hid (linksF ns i p = none ∧ Fr [] w wr) := by
        refine ⟨?_, F.out.1⟩
        unfold linksF
        cases e : nfnd ns i p with
        | none => rfl
        | some x =>
          obtain ⟨j, hj⟩ := List.getElem?_of_mem (List.mem_of_find?_eq_some e)
          have h1 : x.id = i ∧ x.op = p := by simpa using List.find?_some e
          have := F.out.2 j x (List.getElem?_eq_some_iff.1 hj).1 hj
          have h0 : x.to = 0 := by
            rcases Decidable.em (x.to = 0) with h | h
            · exact h
            · exact absurd ⟨h1.1, h1.2, h⟩ this
          simp [numO, h0]
      clear F
      go_wp2
      exact bodyPost_ret (results_tmp2 rfl _ _ _) rfl ⟨by rw [HL.out.1]; rfl, HL.out.2⟩
end Go.Proofs.Ytnhjplfdfbbihaa
namespace Go.Proofs.Ytnhjplfdfbbihaa
open Go.RowKit Go.Shelf Go.Maps Go.ChangeShapes
set_option linter.unusedVariables false
set_option linter.unusedSimpArgs false
theorem cu45r : Try.prog.underlying 45 = some (.slice 52) := by kernel_rfl
theorem elem45 : Try.prog.elem 45 = 52 := by kernel_rfl
theorem cu45e : Try.prog.underlying 45 = some (.slice (Try.prog.elem 45)) := by kernel_rfl
theorem ci52 : (Try.prog.info? 52).map (fun i => (i.zero, i.size, i.bytes)) = some (some (ev (0, tr0)), 18, 224) := by kernel_rfl
theorem flatR_one (L : List Rt) : ∀ u ∈ flatR L, u.oneCell' = true := by
  intro u hu
  obtain ⟨x, _, hx⟩ := List.mem_flatMap.1 hu
  rcases List.mem_cons.1 (show u ∈ evl x from hx) with rfl | h
  · rfl
  · exact x.2.cl_one u h
theorem flatR_app (L M : List Rt) : flatR (L ++ M) = flatR L ++ flatR M := by unfold flatR; rw [List.flatMap_append]
theorem erase_split (L : List Rt) (i : Nat) : L.eraseIdx i = L.take i ++ L.drop (i + 1) := List.eraseIdx_eq_take_drop_succ ..
theorem rowR_cell {w : World} {B g c n : Nat} {L : List Rt} (h : w.ownsRow B 52 18 (.slice (some ⟨g, 0, none⟩) n c) L.length (flatR L)) {j : Nat} {v : Value} (hv : (flatR L)[j]? = some v) : w.cell? ⟨g, j, none⟩ = some v := by
  obtain ⟨g', c', e1, hc, _⟩ := own_cells h hv
  cases e1
  exact hc
theorem take_cell {L : List Rt} {i j : Nat} {v : Value} (h : (flatR (L.take i))[j]? = some v) : (flatR L)[j]? = some v := by
  have e : flatR L = flatR (L.take i) ++ flatR (L.drop i) := by rw [← flatR_app, List.take_append_drop]
  rw [e, List.getElem?_append_left (List.getElem?_eq_some_iff.1 h).1]
  exact h
theorem drop_cell {L : List Rt} {i j : Nat} (hi : i ≤ L.length) {v : Value} (h : (flatR (L.drop i))[j]? = some v) : (flatR L)[i * 18 + j]? = some v := by
  have e : flatR L = flatR (L.take i) ++ flatR (L.drop i) := by rw [← flatR_app, List.take_append_drop]
  rw [e, List.getElem?_append_right (by rw [flatR_len, List.length_take]; have := Nat.min_eq_left hi; rw [this]; omega), flatR_len, List.length_take, Nat.min_eq_left hi]
  rw [show i * 18 + j - i * 18 = j by omega]
  exact h
set_option maxRecDepth 100000 in
set_option maxHeartbeats 8000000 in
theorem gone_rows {W : World} {B c : Nat} {rv nv : Value} {lim : Nat} {pa : Option Addr} {pcap : Nat} {pf : List Int} {used last top : Nat} {rs : List Rt} {ns : List Nt} (hP : RP W B c rv nv lim pa pcap pf used last top rs ns) (hBW : B ≤ W.heap.size) (hl : rs.length ≤ 1000) {i : Nat} (hi : i < rs.length) {Q : Exit → Act → World → Prop} {u2 u3 u4 u5 u6 u7 u8 u9 u10 u11 u12 u13 u14 u15 u16 u17 u18 u19 u20 u21 u22 u23 u24 u25 u26 u27 u28 u29 u30 u31 u32 u33 u34 u35 u36 u37 u38 u39 u40 u41 u42 u43 u44 u45 u46 u47 u48 u49 u50 u51 u52 u53 u54 u55 u56 u57 u58 u59 u60 : Value}
    (hQ : Hid (∀ W2 rv', RP W2 B c rv' nv lim pa pcap pf used last top (rs.eraseIdx i) ns → Gm B pR false W W2 → ∀ n16 n17 n18 n19 n20 n21 n22 n23 n24 n25 n26 n27 n28 n29 n30 n31 n32 n33, Q .normal { tmps := #[.pointer (some ⟨c, 0, none⟩), .int .i64 i, u2, u3, u4, u5, u6, u7, u8, u9, u10, u11, u12, u13, u14, u15, n16, n17, n18, n19, n20, n21, n22, n23, n24, n25, n26, n27, n28, n29, n30, n31, n32, n33, u34, u35, u36, u37, u38, u39, u40, u41, u42, u43, u44, u45, u46, u47, u48, u49, u50, u51, u52, u53, u54, u55, u56, u57, u58, u59, u60], defers := [] } W2)) :
    (sub Try.f37 [1, 0]).wp Try.prog Q { tmps := #[.pointer (some ⟨c, 0, none⟩), .int .i64 i, u2, u3, u4, u5, u6, u7, u8, u9, u10, u11, u12, u13, u14, u15, u16, u17, u18, u19, u20, u21, u22, u23, u24, u25, u26, u27, u28, u29, u30, u31, u32, u33, u34, u35, u36, u37, u38, u39, u40, u41, u42, u43, u44, u45, u46, u47, u48, u49, u50, u51, u52, u53, u54, u55, u56, u57, u58, u59, u60], defers := [] } W := by
  obtain ⟨ra, rc, rfl, _⟩ := own_slice hP.rows
  have HP : Hid (RP W B c (.slice ra rs.length rc) nv lim pa pcap pf used last top rs ns ∧ B ≤ W.heap.size ∧ rs.length ≤ 1000 ∧ i < rs.length) := ⟨hP, hBW, hl, hi⟩
  obtain ⟨g, rfl⟩ : ∃ g, ra = some ⟨g, 0, none⟩ := by
    obtain ⟨g, c', e1, _⟩ := own_cells hP.rows (j := i * 18) (List.getElem?_eq_getElem (by rw [flatR_len]; omega))
    cases e1; exact ⟨g, rfl⟩
  have hcap : rs.length ≤ rc := by
    rcases hP.rows.2 with ⟨e1, _⟩ | ⟨g', cp, cur, e1, _, _, h3, _⟩
    · cases e1
    · cases e1; exact h3
  obtain ⟨N, hN⟩ : ∃ N, rs.length = N := ⟨_, rfl⟩
  have HN : Hid (rs.length = N) := hN
  have HBN : Hid (i + (N - (i + 1)) ≤ 1000) := by show _ ≤ _; omega
  rw [hN] at hcap hi
  have LC : Hid (∀ w', Fr [] W w' → w'.cell? ⟨c, 0, none⟩ = some (.slice (some ⟨g, 0, none⟩) N rc)) := fun w' f => by rw [← hN]; exact f.cellNew hP.blk (by simp) rfl
  obtain ⟨ie, i1, i2, i3, i4⟩ := info_parts ci52
  have HIE : Hid (Try.prog.info? 52 = some ie ∧ ie.zero = some (ev (0, tr0)) ∧ ie.size = 18 ∧ ie.bytes = 224) := ⟨i1, i2, i3, i4⟩
  have hiI : (i : Int) < (N : Int) := by omega
  have hi1 : (i : Int) + 1 ≤ 1000 := by omega
  have hwi : IntKind.i64.wrap ((i : Int) + 1) = (i : Int) + 1 := by rw [IntWalk.i64_left, IntWalk.wrap64_in _ (by omega)]
  have hic : (i : Int) ≤ (rc : Int) := by omega
  have hic1 : (i : Int) + 1 ≤ (N : Int) := by omega
  have hNc : (N : Int) ≤ (rc : Int) := by omega
  clear hP hl hN i1 i2 i3 i4 hBW
  dsimp only [sub, nav, kid, Try.f37, Option.getD, if_true, if_false]
  obtain ⟨ao, hao⟩ : ∃ ao : Option Addr, ao = if rc = i + 1 then some ⟨g, 0, none⟩ else some ⟨g, (i + 1) * 18, none⟩ := ⟨_, rfl⟩
  have HAO : Hid (ao = if rc = i + 1 then some ⟨g, 0, none⟩ else some ⟨g, (i + 1) * 18, none⟩) := hao
  have hsl : ∀ w, (Instr.slice 45 (.slice (some ⟨g, 0, none⟩) N rc) (some (.int .i64 ((i : Int) + 1))) none none).run Try.prog w = .ok (.slice ao (N - (i + 1)) (rc - (i + 1))) w := fun w => by
    have e1 : ((i : Int) + 1).toNat = i + 1 := by omega
    have h1 := run_slice_l (P := Try.prog) w 45 (some ⟨g, 0, none⟩) N rc cu45e .i64 ((i : Int) + 1) (by omega) (by omega)
    rw [h1, e1, hao]
    simp [sliced, Try.sizeOf52, Result.andThen, Addr.add_lit, elem45]
  clear hao
  have hF : Fr [] W W.drew := (Fr.refl _ _).drew
  have hS : True := trivial
  refine reg_in (fun _ => True) ?_
  generalize W.drew = Y at *
  refine tk 0 (some 16) (.pointer (some ⟨c, 0, none⟩)) rfl rfl (Or.inl ⟨rfl, fun wq hSq => by first | rfl | go_simp⟩) (by decide +kernel) hS ?_
  simp only [Act.put, List.setIfInBounds_toArray, List.set_cons_zero, List.set_cons_succ]
  refine tk 1 (some 17) (.pointer (some ⟨c, 0, none⟩)) rfl rfl (Or.inl ⟨rfl, fun wq hSq => by first | rfl | go_simp⟩) (by decide +kernel) hS ?_
  simp only [Act.put, List.setIfInBounds_toArray, List.set_cons_zero, List.set_cons_succ]
  refine tk 2 (some 18) (.pointer (some ⟨c, 0, none⟩)) rfl rfl (Or.inl ⟨rfl, fun wq hSq => by first | rfl | go_simp⟩) (by decide +kernel) hS ?_
  simp only [Act.put, List.setIfInBounds_toArray, List.set_cons_zero, List.set_cons_succ]
  refine tk 3 (some 19) (.pointer (some ⟨c, 0, none⟩)) rfl rfl (Or.inl ⟨rfl, fun wq hSq => by first | rfl | go_simp⟩) (by decide +kernel) hS ?_
  simp only [Act.put, List.setIfInBounds_toArray, List.set_cons_zero, List.set_cons_succ]
  refine tk 5 (some 21) (.int .i64 i) rfl rfl (Or.inl ⟨rfl, fun wq hSq => by first | rfl | go_simp⟩) (by decide +kernel) hS ?_
  simp only [Act.put, List.setIfInBounds_toArray, List.set_cons_zero, List.set_cons_succ]
  refine tk 8 (some 24) (.pointer (some ⟨c, 0, none⟩)) rfl rfl (Or.inl ⟨rfl, fun wq hSq => by first | rfl | go_simp⟩) (by decide +kernel) hS ?_
  simp only [Act.put, List.setIfInBounds_toArray, List.set_cons_zero, List.set_cons_succ]
  refine tk 9 (some 25) (.pointer (some ⟨c, 0, none⟩)) rfl rfl (Or.inl ⟨rfl, fun wq hSq => by first | rfl | go_simp⟩) (by decide +kernel) hS ?_
  simp only [Act.put, List.setIfInBounds_toArray, List.set_cons_zero, List.set_cons_succ]
  refine tk 10 (some 26) (.pointer (some ⟨c, 0, none⟩)) rfl rfl (Or.inl ⟨rfl, fun wq hSq => by first | rfl | go_simp⟩) (by decide +kernel) hS ?_
  simp only [Act.put, List.setIfInBounds_toArray, List.set_cons_zero, List.set_cons_succ]
  refine tk 12 (some 28) (.int .i64 i) rfl rfl (Or.inl ⟨rfl, fun wq hSq => by first | rfl | go_simp⟩) (by decide +kernel) hS ?_
  simp only [Act.put, List.setIfInBounds_toArray, List.set_cons_zero, List.set_cons_succ]
  refine tk 13 (some 29) (.int .i64 ((i : Int) + 1)) rfl rfl (Or.inl ⟨rfl, fun wq hSq => by go_simp⟩) (by decide +kernel) hS ?_
  simp only [Act.put, List.setIfInBounds_toArray, List.set_cons_zero, List.set_cons_succ]
  refine wpAnyH_ready (rs := [4, 11]) (by decide +kernel) (by simp) ?_
  refine AllReadyH.cons rfl (fun K hK => ?_) ?_
  · skip
    have q := LC.out _ hF
    go_simp
    clear q
    refine hK.out _ _ hS (fun _ => ?_)
    clear hK K
    try simp only [List.getElem_toArray, List.getElem_cons_succ, List.getElem_cons_zero, Act.put, List.setIfInBounds_toArray, List.set_cons_zero, List.set_cons_succ]
    refine tk 6 (some 22) (.slice (some ⟨g, 0, none⟩) i rc) rfl rfl (Or.inl ⟨rfl, fun wq hSq => by go_simp⟩) (by decide +kernel) hS ?_
    simp only [Act.put, List.setIfInBounds_toArray, List.set_cons_zero, List.set_cons_succ]
    refine wpAnyH_ready (rs := [7, 11]) (by decide +kernel) (by simp) ?_
    refine AllReadyH.cons rfl (fun K hK => ?_) ?_
    · skip
      refine step_append_src rfl (.const (.slice none 0 0)) (.tmp 22) 45 rfl W.heap.size 52 ie (ev (0, tr0)) 18 224 cu45r HIE.out.1 HIE.out.2.1 HIE.out.2.2.1 HIE.out.2.2.2 (by kernel_rfl) (by decide) (.slice none 0 0) 0 [] rfl (World.ownsRow_nil _ _ _ _) (some ⟨g, 0, none⟩) i rc (flatR (rs.take i)) rfl (by rw [flatR_len, List.length_take, Nat.min_eq_left (by have := HP.out.2.2.2; omega)]) (fun e => by cases e) (fun ad e => by cases e; intro j u hu; rw [Addr.add_lit, Nat.zero_add]; exact rowR_cell (own_fr HP.out.1.rows hF (by simp)) (take_cell hu)) (flatR_one _) (by have := HP.out.2.2; simp only [maxLen]; omega) (by have := HP.out.2.2; omega) hF.size ?_
      intro v1 X1 o1 g1 l1
      rw [Nat.zero_add, List.nil_append] at o1
      obtain ⟨va, vc, rfl, _⟩ := own_slice o1
      have hF := hF.trans (Fr.ofGrown g1)
      have HO1 : Hid (X1.ownsRow W.heap.size 52 18 (.slice va i vc) i (flatR (rs.take i))) := o1
      clear o1 g1 l1
      refine hK.out _ _ hS (fun _ => ?_)
      clear hK K
      try simp only [List.getElem_toArray, List.getElem_cons_succ, List.getElem_cons_zero, Act.put, List.setIfInBounds_toArray, List.set_cons_zero, List.set_cons_succ]
      refine wpAnyH_ready (rs := [11]) (by decide +kernel) (by simp) ?_
      refine AllReadyH.cons rfl (fun K hK => ?_) AllReadyH.nil
      have q := LC.out _ hF
      go_simp
      clear q
      refine hK.out _ _ hS (fun _ => ?_)
      clear hK K
      try simp only [List.getElem_toArray, List.getElem_cons_succ, List.getElem_cons_zero, Act.put, List.setIfInBounds_toArray, List.set_cons_zero, List.set_cons_succ]
      refine tk 14 (some 30) (.slice ao (N - (i + 1)) (rc - (i + 1))) rfl rfl (Or.inl ⟨rfl, fun wq hSq => by have q := hsl wq; go_simp⟩) (by decide +kernel) hS ?_
      simp only [Act.put, List.setIfInBounds_toArray, List.set_cons_zero, List.set_cons_succ]
      refine wpAnyH_ready (rs := [15]) (by decide +kernel) (by simp) ?_
      refine AllReadyH.cons rfl (fun K hK => ?_) AllReadyH.nil
      have hdl : (flatR (rs.drop (i + 1))).length = (N - (i + 1)) * 18 := by rw [flatR_len, List.length_drop, HN.out]
      have hnone : ao = none → N - (i + 1) = 0 ∧ rc - (i + 1) = 0 := fun e => by rw [HAO.out] at e; split at e <;> cases e
      have hcs : ∀ ad, ao = some ad → ∀ (j : Nat) u, (flatR (rs.drop (i + 1)))[j]? = some u → X1.cell? (ad.add j) = some u := fun ad e j u hu => by
        have hjl := (List.getElem?_eq_some_iff.1 hu).1
        have hne : ¬ rc = i + 1 := fun e2 => by rw [hdl] at hjl; have := HP.out.2.2.2; omega
        rw [HAO.out, if_neg hne] at e
        cases e
        rw [Addr.add_lit]
        exact rowR_cell (own_fr HP.out.1.rows hF (by simp)) (drop_cell (by have := HP.out.2.2.2; omega) hu)
      refine step_append_src rfl (.tmp 23) (.tmp 30) 45 rfl W.heap.size 52 ie (ev (0, tr0)) 18 224 cu45r HIE.out.1 HIE.out.2.1 HIE.out.2.2.1 HIE.out.2.2.2 (by kernel_rfl) (by decide) (.slice va i vc) i (flatR (rs.take i)) rfl HO1.out ao (N - (i + 1)) (rc - (i + 1)) (flatR (rs.drop (i + 1))) rfl hdl hnone hcs (flatR_one _) (by have := HBN.out; simp only [maxLen]; omega) (by have := HBN.out; omega) hF.size ?_
      intro v2 X2 o2 g2 l2
      rw [← flatR_app, ← erase_split] at o2
      have hN2 : i + (N - (i + 1)) = (rs.eraseIdx i).length := by rw [List.length_eraseIdx_of_lt HP.out.2.2.2, HN.out]; have := HP.out.2.2.2; omega
      rw [hN2] at o2
      obtain ⟨N2, hN2e⟩ : ∃ N2, (rs.eraseIdx i).length = N2 := ⟨_, rfl⟩
      rw [hN2e] at o2
      obtain ⟨vb, vd, rfl, _⟩ := own_slice o2
      have hF2 : Fr [] W X2 := hF.grown g2 (fun k e => .inr (HO1.out.lt k e).1)
      have HO2 : Hid (X2.ownsRow W.heap.size 52 18 (.slice vb N2 vd) N2 (flatR (rs.eraseIdx i)) ∧ (rs.eraseIdx i).length = N2 ∧ Fr [] W X2) := ⟨o2, hN2e, hF2⟩
      have q0 : X2.cell? ⟨c, 0, none⟩ = some (.slice (some ⟨g, 0, none⟩) N rc) := LC.out _ hF2
      have z0 : X2.frozen? ⟨c, 0, none⟩ = false := frz ((hF2.block _ (Array.getElem?_eq_some_iff.1 HP.out.1.blk).1 (by simp)).trans HP.out.1.blk)
      clear o2 g2 l2 hN2 hN2e hF hF2 hdl hnone hcs
      refine hK.out _ _ hS (fun _ => ?_)
      clear hK K
      try simp only [List.getElem_toArray, List.getElem_cons_succ, List.getElem_cons_zero, Act.put, List.setIfInBounds_toArray, List.set_cons_zero, List.set_cons_succ]
      refine tk 16 (some 32) (.pointer (some ⟨c, 0, none⟩)) rfl rfl (Or.inl ⟨rfl, fun wq hSq => by first | rfl | go_simp⟩) (by decide +kernel) hS ?_
      simp only [Act.put, List.setIfInBounds_toArray, List.set_cons_zero, List.set_cons_succ]
      refine tk 17 (some 33) (.pointer (some ⟨c, 0, none⟩)) rfl rfl (Or.inl ⟨rfl, fun wq hSq => by first | rfl | go_simp⟩) (by decide +kernel) hS ?_
      simp only [Act.put, List.setIfInBounds_toArray, List.set_cons_zero, List.set_cons_succ]
      refine wpAnyH_ready (rs := [18]) (by decide +kernel) (by simp) ?_
      refine AllReadyH.cons rfl (fun K hK => ?_) AllReadyH.nil
      go_simp
      clear q0 z0
      refine hK.out _ _ hS (fun _ => ?_)
      clear hK K
      try simp only [List.getElem_toArray, List.getElem_cons_succ, List.getElem_cons_zero, Act.put, List.setIfInBounds_toArray, List.set_cons_zero, List.set_cons_succ]
      refine wpAnyH_done (by decide +kernel) ?_ _
      refine plain_end ?_
      have hbX := (HO2.out.2.2.block _ (Array.getElem?_eq_some_iff.1 HP.out.1.blk).1 (by simp)).trans HP.out.1.blk
      have f3 : Fr [c] X2 (X2.setCell ⟨c, 0, none⟩ (.slice vb N2 vd)) := (Fr.refl _ _).setCell (.inl (by simp)) _
      have hb3 := set_blk (i := 0) (v := .slice vb N2 vd) hbX
      have hA : Away X2 B [c] := away_cells hbX rfl HP.out.1.cB
      have hno : ∀ k, nv.ownBlock = some k → k ∉ [c] := fun k hk hm => by
        have : k = c := by simpa using hm
        subst this
        exact own_ne (own_fr HP.out.1.notes HO2.out.2.2 (by simp)) hbX (by decide) hk
      have hro : ∀ k, (Value.slice vb N2 vd).ownBlock = some k → k ∉ [c] := fun k hk hm => by
        have : k = c := by simpa using hm
        subst this
        exact own_ne HO2.out.1 hbX (by decide) hk
      refine hQ.out _ (.slice vb N2 vd) ⟨hb3, by rw [HO2.out.2.1]; exact own_fr (own_low HO2.out.1 HP.out.2.1) f3 hro, own_fr (own_fr HP.out.1.notes HO2.out.2.2 (by simp)) f3 hno, (HP.out.1.pick.fr HO2.out.2.2 (Away.nil _ _)).fr f3 hA, fun r hr => ((HP.out.1.trs r (List.mem_of_mem_eraseIdx hr)).fr0 HO2.out.2.2).fr f3 hA, HP.out.1.cB⟩ ((Gm.ofFr0 HO2.out.2.2).trans (Gm.ofFr f3 (fun k hm => by
        have : k = c := by simpa using hm
        subst this
        exact .inr ⟨HP.out.1.cB, .inl ⟨_, _, _, hbX, rfl⟩⟩))) _ _ _ _ _ _ _ _ _ _ _ _ _ _ _ _ _ _
    refine AllReadyH.cons rfl (fun K hK => ?_) AllReadyH.nil
    have q := LC.out _ hF
    go_simp
    clear q
    refine hK.out _ _ hS (fun _ => ?_)
    clear hK K
    try simp only [List.getElem_toArray, List.getElem_cons_succ, List.getElem_cons_zero, Act.put, List.setIfInBounds_toArray, List.set_cons_zero, List.set_cons_succ]
    refine tk 14 (some 30) (.slice ao (N - (i + 1)) (rc - (i + 1))) rfl rfl (Or.inl ⟨rfl, fun wq hSq => by have q := hsl wq; go_simp⟩) (by decide +kernel) hS ?_
    simp only [Act.put, List.setIfInBounds_toArray, List.set_cons_zero, List.set_cons_succ]
    refine wpAnyH_ready (rs := [7]) (by decide +kernel) (by simp) ?_
    refine AllReadyH.cons rfl (fun K hK => ?_) AllReadyH.nil
    refine step_append_src rfl (.const (.slice none 0 0)) (.tmp 22) 45 rfl W.heap.size 52 ie (ev (0, tr0)) 18 224 cu45r HIE.out.1 HIE.out.2.1 HIE.out.2.2.1 HIE.out.2.2.2 (by kernel_rfl) (by decide) (.slice none 0 0) 0 [] rfl (World.ownsRow_nil _ _ _ _) (some ⟨g, 0, none⟩) i rc (flatR (rs.take i)) rfl (by rw [flatR_len, List.length_take, Nat.min_eq_left (by have := HP.out.2.2.2; omega)]) (fun e => by cases e) (fun ad e => by cases e; intro j u hu; rw [Addr.add_lit, Nat.zero_add]; exact rowR_cell (own_fr HP.out.1.rows hF (by simp)) (take_cell hu)) (flatR_one _) (by have := HP.out.2.2; simp only [maxLen]; omega) (by have := HP.out.2.2; omega) hF.size ?_
    intro v1 X1 o1 g1 l1
    rw [Nat.zero_add, List.nil_append] at o1
    obtain ⟨va, vc, rfl, _⟩ := own_slice o1
    have hF := hF.trans (Fr.ofGrown g1)
    have HO1 : Hid (X1.ownsRow W.heap.size 52 18 (.slice va i vc) i (flatR (rs.take i))) := o1
    clear o1 g1 l1
    refine hK.out _ _ hS (fun _ => ?_)
    clear hK K
    try simp only [List.getElem_toArray, List.getElem_cons_succ, List.getElem_cons_zero, Act.put, List.setIfInBounds_toArray, List.set_cons_zero, List.set_cons_succ]
    refine wpAnyH_ready (rs := [15]) (by decide +kernel) (by simp) ?_
    refine AllReadyH.cons rfl (fun K hK => ?_) AllReadyH.nil
    have hdl : (flatR (rs.drop (i + 1))).length = (N - (i + 1)) * 18 := by rw [flatR_len, List.length_drop, HN.out]
    have hnone : ao = none → N - (i + 1) = 0 ∧ rc - (i + 1) = 0 := fun e => by rw [HAO.out] at e; split at e <;> cases e
    have hcs : ∀ ad, ao = some ad → ∀ (j : Nat) u, (flatR (rs.drop (i + 1)))[j]? = some u → X1.cell? (ad.add j) = some u := fun ad e j u hu => by
      have hjl := (List.getElem?_eq_some_iff.1 hu).1
      have hne : ¬ rc = i + 1 := fun e2 => by rw [hdl] at hjl; have := HP.out.2.2.2; omega
      rw [HAO.out, if_neg hne] at e
      cases e
      rw [Addr.add_lit]
      exact rowR_cell (own_fr HP.out.1.rows hF (by simp)) (drop_cell (by have := HP.out.2.2.2; omega) hu)
    refine step_append_src rfl (.tmp 23) (.tmp 30) 45 rfl W.heap.size 52 ie (ev (0, tr0)) 18 224 cu45r HIE.out.1 HIE.out.2.1 HIE.out.2.2.1 HIE.out.2.2.2 (by kernel_rfl) (by decide) (.slice va i vc) i (flatR (rs.take i)) rfl HO1.out ao (N - (i + 1)) (rc - (i + 1)) (flatR (rs.drop (i + 1))) rfl hdl hnone hcs (flatR_one _) (by have := HBN.out; simp only [maxLen]; omega) (by have := HBN.out; omega) hF.size ?_
    intro v2 X2 o2 g2 l2
    rw [← flatR_app, ← erase_split] at o2
    have hN2 : i + (N - (i + 1)) = (rs.eraseIdx i).length := by rw [List.length_eraseIdx_of_lt HP.out.2.2.2, HN.out]; have := HP.out.2.2.2; omega
    rw [hN2] at o2
    obtain ⟨N2, hN2e⟩ : ∃ N2, (rs.eraseIdx i).length = N2 := ⟨_, rfl⟩
    rw [hN2e] at o2
    obtain ⟨vb, vd, rfl, _⟩ := own_slice o2
    have hF2 : Fr [] W X2 := hF.grown g2 (fun k e => .inr (HO1.out.lt k e).1)
    have HO2 : Hid (X2.ownsRow W.heap.size 52 18 (.slice vb N2 vd) N2 (flatR (rs.eraseIdx i)) ∧ (rs.eraseIdx i).length = N2 ∧ Fr [] W X2) := ⟨o2, hN2e, hF2⟩
    have q0 : X2.cell? ⟨c, 0, none⟩ = some (.slice (some ⟨g, 0, none⟩) N rc) := LC.out _ hF2
    have z0 : X2.frozen? ⟨c, 0, none⟩ = false := frz ((hF2.block _ (Array.getElem?_eq_some_iff.1 HP.out.1.blk).1 (by simp)).trans HP.out.1.blk)
    clear o2 g2 l2 hN2 hN2e hF hF2 hdl hnone hcs
    refine hK.out _ _ hS (fun _ => ?_)
    clear hK K
    try simp only [List.getElem_toArray, List.getElem_cons_succ, List.getElem_cons_zero, Act.put, List.setIfInBounds_toArray, List.set_cons_zero, List.set_cons_succ]
    refine tk 16 (some 32) (.pointer (some ⟨c, 0, none⟩)) rfl rfl (Or.inl ⟨rfl, fun wq hSq => by first | rfl | go_simp⟩) (by decide +kernel) hS ?_
    simp only [Act.put, List.setIfInBounds_toArray, List.set_cons_zero, List.set_cons_succ]
    refine tk 17 (some 33) (.pointer (some ⟨c, 0, none⟩)) rfl rfl (Or.inl ⟨rfl, fun wq hSq => by first | rfl | go_simp⟩) (by decide +kernel) hS ?_
    simp only [Act.put, List.setIfInBounds_toArray, List.set_cons_zero, List.set_cons_succ]
    refine wpAnyH_ready (rs := [18]) (by decide +kernel) (by simp) ?_
    refine AllReadyH.cons rfl (fun K hK => ?_) AllReadyH.nil
    go_simp
    clear q0 z0
    refine hK.out _ _ hS (fun _ => ?_)
    clear hK K
    try simp only [List.getElem_toArray, List.getElem_cons_succ, List.getElem_cons_zero, Act.put, List.setIfInBounds_toArray, List.set_cons_zero, List.set_cons_succ]
    refine wpAnyH_done (by decide +kernel) ?_ _
    refine plain_end ?_
    have hbX := (HO2.out.2.2.block _ (Array.getElem?_eq_some_iff.1 HP.out.1.blk).1 (by simp)).trans HP.out.1.blk
    have f3 : Fr [c] X2 (X2.setCell ⟨c, 0, none⟩ (.slice vb N2 vd)) := (Fr.refl _ _).setCell (.inl (by simp)) _
    have hb3 := set_blk (i := 0) (v := .slice vb N2 vd) hbX
    have hA : Away X2 B [c] := away_cells hbX rfl HP.out.1.cB
    have hno : ∀ k, nv.ownBlock = some k → k ∉ [c] := fun k hk hm => by
      have : k = c := by simpa using hm
      subst this
      exact own_ne (own_fr HP.out.1.notes HO2.out.2.2 (by simp)) hbX (by decide) hk
    have hro : ∀ k, (Value.slice vb N2 vd).ownBlock = some k → k ∉ [c] := fun k hk hm => by
      have : k = c := by simpa using hm
      subst this
      exact own_ne HO2.out.1 hbX (by decide) hk
    refine hQ.out _ (.slice vb N2 vd) ⟨hb3, by rw [HO2.out.2.1]; exact own_fr (own_low HO2.out.1 HP.out.2.1) f3 hro, own_fr (own_fr HP.out.1.notes HO2.out.2.2 (by simp)) f3 hno, (HP.out.1.pick.fr HO2.out.2.2 (Away.nil _ _)).fr f3 hA, fun r hr => ((HP.out.1.trs r (List.mem_of_mem_eraseIdx hr)).fr0 HO2.out.2.2).fr f3 hA, HP.out.1.cB⟩ ((Gm.ofFr0 HO2.out.2.2).trans (Gm.ofFr f3 (fun k hm => by
      have : k = c := by simpa using hm
      subst this
      exact .inr ⟨HP.out.1.cB, .inl ⟨_, _, _, hbX, rfl⟩⟩))) _ _ _ _ _ _ _ _ _ _ _ _ _ _ _ _ _ _
  refine AllReadyH.cons rfl (fun K hK => ?_) AllReadyH.nil
  have q := LC.out _ hF
  go_simp
  clear q
  refine hK.out _ _ hS (fun _ => ?_)
  clear hK K
  try simp only [List.getElem_toArray, List.getElem_cons_succ, List.getElem_cons_zero, Act.put, List.setIfInBounds_toArray, List.set_cons_zero, List.set_cons_succ]
  refine tk 14 (some 30) (.slice ao (N - (i + 1)) (rc - (i + 1))) rfl rfl (Or.inl ⟨rfl, fun wq hSq => by have q := hsl wq; go_simp⟩) (by decide +kernel) hS ?_
  simp only [Act.put, List.setIfInBounds_toArray, List.set_cons_zero, List.set_cons_succ]
  refine wpAnyH_ready (rs := [4]) (by decide +kernel) (by simp) ?_
  refine AllReadyH.cons rfl (fun K hK => ?_) AllReadyH.nil
  have q := LC.out _ hF
  go_simp
  clear q
  refine hK.out _ _ hS (fun _ => ?_)
  clear hK K
  try simp only [List.getElem_toArray, List.getElem_cons_succ, List.getElem_cons_zero, Act.put, List.setIfInBounds_toArray, List.set_cons_zero, List.set_cons_succ]
  refine tk 6 (some 22) (.slice (some ⟨g, 0, none⟩) i rc) rfl rfl (Or.inl ⟨rfl, fun wq hSq => by go_simp⟩) (by decide +kernel) hS ?_
  simp only [Act.put, List.setIfInBounds_toArray, List.set_cons_zero, List.set_cons_succ]
  refine wpAnyH_ready (rs := [7]) (by decide +kernel) (by simp) ?_
  refine AllReadyH.cons rfl (fun K hK => ?_) AllReadyH.nil
  refine step_append_src rfl (.const (.slice none 0 0)) (.tmp 22) 45 rfl W.heap.size 52 ie (ev (0, tr0)) 18 224 cu45r HIE.out.1 HIE.out.2.1 HIE.out.2.2.1 HIE.out.2.2.2 (by kernel_rfl) (by decide) (.slice none 0 0) 0 [] rfl (World.ownsRow_nil _ _ _ _) (some ⟨g, 0, none⟩) i rc (flatR (rs.take i)) rfl (by rw [flatR_len, List.length_take, Nat.min_eq_left (by have := HP.out.2.2.2; omega)]) (fun e => by cases e) (fun ad e => by cases e; intro j u hu; rw [Addr.add_lit, Nat.zero_add]; exact rowR_cell (own_fr HP.out.1.rows hF (by simp)) (take_cell hu)) (flatR_one _) (by have := HP.out.2.2; simp only [maxLen]; omega) (by have := HP.out.2.2; omega) hF.size ?_
  intro v1 X1 o1 g1 l1
  rw [Nat.zero_add, List.nil_append] at o1
  obtain ⟨va, vc, rfl, _⟩ := own_slice o1
  have hF := hF.trans (Fr.ofGrown g1)
  have HO1 : Hid (X1.ownsRow W.heap.size 52 18 (.slice va i vc) i (flatR (rs.take i))) := o1
  clear o1 g1 l1
  refine hK.out _ _ hS (fun _ => ?_)
  clear hK K
  try simp only [List.getElem_toArray, List.getElem_cons_succ, List.getElem_cons_zero, Act.put, List.setIfInBounds_toArray, List.set_cons_zero, List.set_cons_succ]
  refine wpAnyH_ready (rs := [15]) (by decide +kernel) (by simp) ?_
  refine AllReadyH.cons rfl (fun K hK => ?_) AllReadyH.nil
  have hdl : (flatR (rs.drop (i + 1))).length = (N - (i + 1)) * 18 := by rw [flatR_len, List.length_drop, HN.out]
  have hnone : ao = none → N - (i + 1) = 0 ∧ rc - (i + 1) = 0 := fun e => by rw [HAO.out] at e; split at e <;> cases e
  have hcs : ∀ ad, ao = some ad → ∀ (j : Nat) u, (flatR (rs.drop (i + 1)))[j]? = some u → X1.cell? (ad.add j) = some u := fun ad e j u hu => by
    have hjl := (List.getElem?_eq_some_iff.1 hu).1
    have hne : ¬ rc = i + 1 := fun e2 => by rw [hdl] at hjl; have := HP.out.2.2.2; omega
    rw [HAO.out, if_neg hne] at e
    cases e
    rw [Addr.add_lit]
    exact rowR_cell (own_fr HP.out.1.rows hF (by simp)) (drop_cell (by have := HP.out.2.2.2; omega) hu)
  refine step_append_src rfl (.tmp 23) (.tmp 30) 45 rfl W.heap.size 52 ie (ev (0, tr0)) 18 224 cu45r HIE.out.1 HIE.out.2.1 HIE.out.2.2.1 HIE.out.2.2.2 (by kernel_rfl) (by decide) (.slice va i vc) i (flatR (rs.take i)) rfl HO1.out ao (N - (i + 1)) (rc - (i + 1)) (flatR (rs.drop (i + 1))) rfl hdl hnone hcs (flatR_one _) (by have := HBN.out; simp only [maxLen]; omega) (by have := HBN.out; omega) hF.size ?_
  intro v2 X2 o2 g2 l2
  rw [← flatR_app, ← erase_split] at o2
  have hN2 : i + (N - (i + 1)) = (rs.eraseIdx i).length := by rw [List.length_eraseIdx_of_lt HP.out.2.2.2, HN.out]; have := HP.out.2.2.2; omega
  rw [hN2] at o2
  obtain ⟨N2, hN2e⟩ : ∃ N2, (rs.eraseIdx i).length = N2 := ⟨_, rfl⟩
  rw [hN2e] at o2
  obtain ⟨vb, vd, rfl, _⟩ := own_slice o2
  have hF2 : Fr [] W X2 := hF.grown g2 (fun k e => .inr (HO1.out.lt k e).1)
  have HO2 : Hid (X2.ownsRow W.heap.size 52 18 (.slice vb N2 vd) N2 (flatR (rs.eraseIdx i)) ∧ (rs.eraseIdx i).length = N2 ∧ Fr [] W X2) := ⟨o2, hN2e, hF2⟩
  have q0 : X2.cell? ⟨c, 0, none⟩ = some (.slice (some ⟨g, 0, none⟩) N rc) := LC.out _ hF2
  have z0 : X2.frozen? ⟨c, 0, none⟩ = false := frz ((hF2.block _ (Array.getElem?_eq_some_iff.1 HP.out.1.blk).1 (by simp)).trans HP.out.1.blk)
  clear o2 g2 l2 hN2 hN2e hF hF2 hdl hnone hcs
  refine hK.out _ _ hS (fun _ => ?_)
  clear hK K
  try simp only [List.getElem_toArray, List.getElem_cons_succ, List.getElem_cons_zero, Act.put, List.setIfInBounds_toArray, List.set_cons_zero, List.set_cons_succ]
  refine tk 16 (some 32) (.pointer (some ⟨c, 0, none⟩)) rfl rfl (Or.inl ⟨rfl, fun wq hSq => by first | rfl | go_simp⟩) (by decide +kernel) hS ?_
  simp only [Act.put, List.setIfInBounds_toArray, List.set_cons_zero, List.set_cons_succ]
  refine tk 17 (some 33) (.pointer (some ⟨c, 0, none⟩)) rfl rfl (Or.inl ⟨rfl, fun wq hSq => by first | rfl | go_simp⟩) (by decide +kernel) hS ?_
  simp only [Act.put, List.setIfInBounds_toArray, List.set_cons_zero, List.set_cons_succ]
  refine wpAnyH_ready (rs := [18]) (by decide +kernel) (by simp) ?_
  refine AllReadyH.cons rfl (fun K hK => ?_) AllReadyH.nil
  go_simp
  clear q0 z0
  refine hK.out _ _ hS (fun _ => ?_)
  clear hK K
  try simp only [List.getElem_toArray, List.getElem_cons_succ, List.getElem_cons_zero, Act.put, List.setIfInBounds_toArray, List.set_cons_zero, List.set_cons_succ]
  refine wpAnyH_done (by decide +kernel) ?_ _
  refine plain_end ?_
  have hbX := (HO2.out.2.2.block _ (Array.getElem?_eq_some_iff.1 HP.out.1.blk).1 (by simp)).trans HP.out.1.blk
  have f3 : Fr [c] X2 (X2.setCell ⟨c, 0, none⟩ (.slice vb N2 vd)) := (Fr.refl _ _).setCell (.inl (by simp)) _
  have hb3 := set_blk (i := 0) (v := .slice vb N2 vd) hbX
  have hA : Away X2 B [c] := away_cells hbX rfl HP.out.1.cB
  have hno : ∀ k, nv.ownBlock = some k → k ∉ [c] := fun k hk hm => by
    have : k = c := by simpa using hm
    subst this
    exact own_ne (own_fr HP.out.1.notes HO2.out.2.2 (by simp)) hbX (by decide) hk
  have hro : ∀ k, (Value.slice vb N2 vd).ownBlock = some k → k ∉ [c] := fun k hk hm => by
    have : k = c := by simpa using hm
    subst this
    exact own_ne HO2.out.1 hbX (by decide) hk
  refine hQ.out _ (.slice vb N2 vd) ⟨hb3, by rw [HO2.out.2.1]; exact own_fr (own_low HO2.out.1 HP.out.2.1) f3 hro, own_fr (own_fr HP.out.1.notes HO2.out.2.2 (by simp)) f3 hno, (HP.out.1.pick.fr HO2.out.2.2 (Away.nil _ _)).fr f3 hA, fun r hr => ((HP.out.1.trs r (List.mem_of_mem_eraseIdx hr)).fr0 HO2.out.2.2).fr f3 hA, HP.out.1.cB⟩ ((Gm.ofFr0 HO2.out.2.2).trans (Gm.ofFr f3 (fun k hm => by
    have : k = c := by simpa using hm
    subst this
    exact .inr ⟨HP.out.1.cB, .inl ⟨_, _, _, hbX, rfl⟩⟩))) _ _ _ _ _ _ _ _ _ _ _ _ _ _ _ _ _ _
end Go.Proofs.Ytnhjplfdfbbihaa
namespace Go.Proofs.Ytnhjplfdfbbihaa
open Go.RowKit Go.Shelf Go.Maps Go.ChangeShapes
set_option linter.unusedVariables false
set_option linter.unusedSimpArgs false
theorem goneN_skip {L : List Nt} {g : Int} {q : Nat} {x : Nt} (hx : L[q]? = some x) (hg : x.id = g) : goneN (L.take (q + 1)) g = goneN (L.take q) g := by
  rw [List.take_add_one, hx]
  unfold goneN
  rw [List.filterMap_append]
  simp [hg]
theorem goneN_next {L : List Nt} {g : Int} {q : Nat} {x : Nt} (hx : L[q]? = some x) (hg : ¬ x.id = g) : goneN (L.take (q + 1)) g = goneN (L.take q) g ++ [if x.to = g then ⟨x.id, x.op, x.f, 0⟩ else x] := by
  rw [List.take_add_one, hx]
  unfold goneN
  rw [List.filterMap_append]
  simp [hg]
theorem flatN_app (L M : List Nt) : flatN (L ++ M) = flatN L ++ flatN M := by unfold flatN; rw [List.flatMap_append]
theorem goneN_take_len (L : List Nt) (g : Int) (q : Nat) : (goneN (L.take q) g).length ≤ L.length := by
  have h1 := goneN_len (L.take q) g
  have h2 : (L.take q).length ≤ L.length := by rw [List.length_take]; exact Nat.min_le_right _ _
  omega
set_option maxRecDepth 100000 in
set_option maxHeartbeats 8000000 in
theorem gone_any {w : World} {B c n : Nat} {rs : List Rt} {S : Bk} (h : RA w B c rs S) (ho : Ok S n) (hn : n ≤ 1048576) (hBw : B ≤ w.heap.size) {i : Nat} (hi : i < rs.length) :
    Calls Try.prog 37 #[.pointer (some ⟨c, 0, none⟩), .int .i64 i] w fun e w' => e = .returned (.tuple #[]) ∧ RA w' B c (rs.eraseIdx i) (goneB S i) ∧ Gm B pR false w w' := by
  have hlen := h.len ho
  have habs := h.abs
  obtain ⟨rv, nv, pa, pcap, pf, used, hp, hpk, hus⟩ := h.ex
  obtain ⟨r, hr⟩ : ∃ r, rs[i]? = some r := ⟨_, List.getElem?_eq_getElem hi⟩
  have hid2 : idAt S.rows i = r.1 := idAt_of habs hr
  obtain ⟨ra, rc, rfl, _⟩ := own_slice hp.rows
  obtain ⟨g, rfl⟩ : ∃ g, ra = some ⟨g, 0, none⟩ := by
    obtain ⟨g, c', e1, _⟩ := own_cells hp.rows (j := i * 18) (List.getElem?_eq_getElem (by rw [flatR_len]; omega))
    cases e1; exact ⟨g, rfl⟩
  have k0 : w.cell? ⟨c, 0, none⟩ = some (.slice (some ⟨g, 0, none⟩) rs.length rc) := at_cells hp.blk 0 rfl
  have k1 : w.cell? ⟨g, i * 18, none⟩ = some (.int .i64 r.1) := rowR_at hp.rows hr 0 _ rfl
  have hiI : (i : Int) < rs.length := by omega
  have HP : Hid (RP w B c (.slice (some ⟨g, 0, none⟩) rs.length rc) nv S.lim pa pcap pf used S.last S.top rs S.notes ∧ B ≤ w.heap.size ∧ rs.length ≤ 1000 ∧ i < rs.length) := ⟨hp, hBw, hlen, hi⟩
  have HS : Hid (rs.map absR = S.rows ∧ pf.drop used = S.pk ∧ used ≤ pf.length ∧ idAt S.rows i = r.1 ∧ S.notes.length ≤ 1048576) := ⟨habs, hpk, hus, hid2, by have := ho.nn; omega⟩
  clear h ho hn hBw hlen habs hp hpk hus hr hid2 hi
  go_enter Try.func37, Try.ntmps37
  go_upto_region 1 with fail
  clear k0 k1
  generalize r.1 = gid at *
  refine gone_rows HP.out.1 HP.out.2.1 HP.out.2.2.1 HP.out.2.2.2 (hid ?_)
  intro W2 rv' hP2 g2 n16 n17 n18 n19 n20 n21 n22 n23 n24 n25 n26 n27 n28 n29 n30 n31 n32 n33
  obtain ⟨ns, hns⟩ : ∃ ns, ns = S.notes := ⟨_, rfl⟩
  rw [← hns] at hP2
  obtain ⟨na, nc, rfl, _⟩ := own_slice hP2.notes
  have HP2 : Hid (RP W2 B c rv' (.slice na ns.length nc) S.lim pa pcap pf used S.last S.top (rs.eraseIdx i) ns ∧ Gm B pR false w W2 ∧ B ≤ W2.heap.size ∧ ns = S.notes) := ⟨hP2, g2, Nat.le_trans HP.out.2.1 g2.size, hns⟩
  have k1 : W2.cell? ⟨c, 1, none⟩ = some (.slice na ns.length nc) := at_cells hP2.blk 1 rfl
  have z1 : W2.frozen? ⟨c, 1, none⟩ = false := frz hP2.blk
  have hnl : ns.length ≤ 1048576 := by rw [hns]; exact HS.out.2.2.2.2
  have hnI : (ns.length : Int) ≤ 1048576 := by omega
  have HNL : Hid (ns.length ≤ 1048576) := hnl
  obtain ⟨ie, i1, i2, i3, i4⟩ := info_parts ci101
  have HIE : Hid (Try.prog.info? 101 = some ie ∧ ie.zero = some (.agg #[.int .i64 0, .int .i64 0, .int .i64 0, .int .i64 0]) ∧ ie.size = 4 ∧ ie.bytes = 32) := ⟨i1, i2, i3, i4⟩
  have F0 : Hid (Fr [] W2 W2) := Fr.refl _ _
  have H0 : Hid (W2.ownsRow W2.heap.size 101 4 (.slice none 0 0) 0 []) := World.ownsRow_nil _ _ _ _
  clear hP2 g2 hns hnl i1 i2 i3 i4
  go_wp2
  clear k1 z1
  go_loopw [5, 39] (fun lv i' wr => ∃ q : Nat, q ≤ ns.length ∧ i' = .int .i64 q ∧ Hid (Fr [] W2 wr ∧ wr.ownsRow W2.heap.size 101 4 lv (goneN (ns.take q) gid).length (flatN (goneN (ns.take q) gid)))) (fun _ i _ => ns.length - (intOf i).toNat)
  case atStart => exact ⟨0, Nat.zero_le _, rfl, F0.out, H0.out⟩
  case round =>
    obtain ⟨q, hq, rfl, F⟩ := hrel
    clear F0 H0
    obtain ⟨la, lc, rfl, _⟩ := own_slice F.out.2
    by_cases hlt : q < ns.length
    · have hltI : (q : Int) < ns.length := by omega
      obtain ⟨x, hx⟩ : ∃ x, ns[q]? = some x := ⟨_, List.getElem?_eq_getElem hlt⟩
      obtain ⟨g, rfl⟩ : ∃ g, na = some ⟨g, 0, none⟩ := by
        obtain ⟨g, c', e1, _⟩ := own_cells HP2.out.1.notes (j := q * 4) (List.getElem?_eq_getElem (by rw [flatN_len]; omega))
        cases e1; exact ⟨g, rfl⟩
      have R1 : Hid (wr.rangeAt g (q * 4) x.cl) := rowN_at (own_fr HP2.out.1.notes F.out.1 (by simp)) hx
      have bA := heap_alloc_new wr (.cells #[.int .i64 0, .int .i64 0, .int .i64 0, .int .i64 0] 101)
      have FB : Fr [] wr ((wr.alloc (.cells #[.int .i64 0, .int .i64 0, .int .i64 0, .int .i64 0] 101)).setRow wr.heap.size (ntc x)) := ((Fr.refl _ _).alloc _).setRow (.inr (Nat.le_refl _)) _
      have bB := setRow_heap (wr.alloc (.cells #[.int .i64 0, .int .i64 0, .int .i64 0, .int .i64 0] 101)) wr.heap.size _ (ntc x) _ _ bA
      have HA : Hid ((wr.alloc (.cells #[.int .i64 0, .int .i64 0, .int .i64 0, .int .i64 0] 101)).heap[wr.heap.size]? = some (.cells #[.int .i64 0, .int .i64 0, .int .i64 0, .int .i64 0] 101 (0, 0))) := bA
      have HBX : Hid (((wr.alloc (.cells #[.int .i64 0, .int .i64 0, .int .i64 0, .int .i64 0] 101)).setRow wr.heap.size (ntc x)).heap[wr.heap.size]? = some (.cells (ntc x) 101 (0, 0)) ∧ W2.heap.size ≤ wr.heap.size) := ⟨bB, F.out.1.size⟩
      have c0 : ((wr.alloc (.cells #[.int .i64 0, .int .i64 0, .int .i64 0, .int .i64 0] 101)).setRow wr.heap.size (ntc x)).cell? ⟨wr.heap.size, 0, none⟩ = some (.int .i64 x.id) := at_cells bB 0 rfl
      have c3 : ((wr.alloc (.cells #[.int .i64 0, .int .i64 0, .int .i64 0, .int .i64 0] 101)).setRow wr.heap.size (ntc x)).cell? ⟨wr.heap.size, 3, none⟩ = some (.int .i64 x.to) := at_cells bB 3 rfl
      have z3 : ((wr.alloc (.cells #[.int .i64 0, .int .i64 0, .int .i64 0, .int .i64 0] 101)).setRow wr.heap.size (ntc x)).frozen? ⟨wr.heap.size, 3, none⟩ = false := frz bB
      have HX : Hid (ns[q]? = some x) := hx
      have HF : Hid (Fr [] W2 ((wr.alloc (.cells #[.int .i64 0, .int .i64 0, .int .i64 0, .int .i64 0] 101)).setRow wr.heap.size (ntc x)) ∧ ((wr.alloc (.cells #[.int .i64 0, .int .i64 0, .int .i64 0, .int .i64 0] 101)).setRow wr.heap.size (ntc x)).ownsRow W2.heap.size 101 4 (.slice la (goneN (ns.take q) gid).length lc) (goneN (ns.take q) gid).length (flatN (goneN (ns.take q) gid))) := ⟨F.out.1.trans FB, own_fr F.out.2 FB (by simp)⟩
      have HLB : Hid (∀ k, (Value.slice la (goneN (ns.take q) gid).length lc).ownBlock = some k → k < wr.heap.size) := fun k hk => (F.out.2.lt k hk).2
      clear bA bB FB hx F
      go_upto_region 6 with (first
        | refine wpList_ldN rfl (.tmp 41) rfl g (q * 4) rfl x R1.out ?_
        | refine wpList_store_row rfl 101 (.tmp 7) (.tmp 42) rfl wr.heap.size (ntc x) rfl rfl 101 _ HA.out (by rw [info101]; rfl) rfl (ntc_one x) ?_)
      clear R1 HA
      have HOB : Hid (¬ (Value.slice la (goneN (ns.take q) gid).length lc).ownBlock = some wr.heap.size) := by
        have hl := HLB.out
        exact fun e => absurd (hl _ e) (Nat.lt_irrefl _)
      generalize (wr.alloc (.cells #[.int .i64 0, .int .i64 0, .int .i64 0, .int .i64 0] 101)).setRow wr.heap.size (ntc x) = X at *
      generalize wr.heap.size = bx at *
      by_cases h1 : x.id = gid
      · have HN : Hid (Fr [] W2 X ∧ X.ownsRow W2.heap.size 101 4 (.slice la (goneN (ns.take q) gid).length lc) (goneN (ns.take (q + 1)) gid).length (flatN (goneN (ns.take (q + 1)) gid))) := by
          show _ ∧ _
          rw [goneN_skip HX.out h1]
          exact HF.out
        rw [h1] at c0
        clear HF HX HBX h1 z3 c3
        generalize (goneN (ns.take q) gid).length = M at *
        go_wp2
        go_roundw
        case rel => exact ⟨q + 1, hlt, by go_num, HN⟩
        case measure => simp [intOf]; omega
      · have hb1 : (x.id == gid) = false := beq_int_false h1
        have HML : Hid ((goneN (ns.take q) gid).length ≤ 1048576) := Nat.le_trans (goneN_take_len _ _ _) HNL.out
        by_cases h2 : x.to = gid
        · have hcell := set_blk (i := 3) (v := .int .i64 0) HBX.out.1
          have f3 : Fr [bx] X (X.setCell ⟨bx, 3, none⟩ (.int .i64 0)) := (Fr.refl _ _).setCell (.inl (by simp)) _
          have hfx : Fr [] W2 (X.setCell ⟨bx, 3, none⟩ (.int .i64 0)) := (HF.out.1.sub (T := [bx]) (by simp)).trans f3 |>.sub (fun k hk => by
            have : k = bx := by simpa using hk
            have := HBX.out.2
            right; omega)
          have hox : (X.setCell ⟨bx, 3, none⟩ (.int .i64 0)).ownsRow W2.heap.size 101 4 (.slice la (goneN (ns.take q) gid).length lc) (goneN (ns.take q) gid).length (flatN (goneN (ns.take q) gid)) := by
            refine own_fr HF.out.2 f3 (fun k hk hm => ?_)
            have : k = bx := by simpa using hm
            subst this
            exact HOB.out hk
          have HY : Hid ((X.setCell ⟨bx, 3, none⟩ (.int .i64 0)).rangeAt bx 0 (⟨x.id, x.op, x.f, 0⟩ : Nt).cl) := range_block (A := ntc ⟨x.id, x.op, x.f, 0⟩) hcell
          have HG : Hid (goneN (ns.take (q + 1)) gid = goneN (ns.take q) gid ++ [⟨x.id, x.op, x.f, 0⟩]) := by rw [goneN_next HX.out h1, if_pos h2]; rfl
          have HFX : Hid (Fr [] W2 (X.setCell ⟨bx, 3, none⟩ (.int .i64 0)) ∧ (X.setCell ⟨bx, 3, none⟩ (.int .i64 0)).ownsRow W2.heap.size 101 4 (.slice la (goneN (ns.take q) gid).length lc) (goneN (ns.take q) gid).length (flatN (goneN (ns.take q) gid))) := ⟨hfx, hox⟩
          have hb2 : (x.to == gid) = true := by simp [h2]
          clear hcell f3 hfx hox HF HX HBX h1 h2
          obtain ⟨y, hy⟩ : ∃ y : Nt, y = ⟨x.id, x.op, x.f, 0⟩ := ⟨_, rfl⟩
          rw [← hy] at HY HG
          clear hy
          generalize x.id = xi at *
          generalize x.to = xt at *
          go_upto_region 9 with fail
          clear c0 c3 z3 hb1 hb2
          generalize X.setCell ⟨bx, 3, none⟩ (.int .i64 0) = XB at *
          generalize hGM : (goneN (ns.take q) gid).length = M at *
          have FA : Fr [] XB (XB.alloc (.cells (ntc y) 101)) := (Fr.refl _ _).alloc _
          have HO1 : Hid ((XB.alloc (.cells (ntc y) 101)).ownsRow W2.heap.size 101 4 (.slice la M lc) M (flatN (goneN (ns.take q) gid))) := own_fr HFX.out.2 FA (by simp)
          have HR1 : Hid (∀ (j : Nat) u, y.cl[j]? = some u → (XB.alloc (.cells (ntc y) 101)).cell? ((⟨XB.heap.size, 0, none⟩ : Addr).add j) = some u) := fun j u hu => by have := range_block (heap_alloc_new XB (.cells (ntc y) 101)) j u (by simpa [ntc] using hu); rw [Addr.add_mid]; exact this
          have HFA : Hid (Fr [] W2 (XB.alloc (.cells (ntc y) 101)) ∧ W2.heap.size ≤ (XB.alloc (.cells (ntc y) 101)).heap.size) := ⟨HFX.out.1.trans FA, (HFX.out.1.trans FA).size⟩
          have HGM : Hid ((goneN (ns.take q) gid).length = M) := hGM
          clear FA HFX hGM
          go_wp2_with (first
            | refine wpList_ldN rfl (.tmp 7) rfl bx 0 rfl y HY.out ?_
            | refine wpList_slice1 rfl 46 101 4 32 (.tmp 53) (ntc y) _ rfl rfl cu46n ci101 (by decide) (by decide) (ntc_size y) ?_
            | (refine wpList_append_fp _ rfl (.tmp 52) (.tmp 54) 46 rfl W2.heap.size 101 ie (.agg #[.int .i64 0, .int .i64 0, .int .i64 0, .int .i64 0]) 4 32 cu46n HIE.out.1 HIE.out.2.1 HIE.out.2.2.1 HIE.out.2.2.2 rfl (by decide) (.slice la M lc) M (flatN (goneN (ns.take q) gid)) rfl HO1.out ⟨XB.heap.size, 0, none⟩ 1 1 y.cl rfl rfl HR1.out (by simp [Nt.cl, Value.oneCell']) (by have := HML.out; simp only [maxLen]; omega) (by have := HML.out; omega) HFA.out.2 ?_; intro v5 w5 o5 g5 l5; have HN : Hid (Fr [] W2 w5 ∧ w5.ownsRow W2.heap.size 101 4 v5 (goneN (ns.take (q + 1)) gid).length (flatN (goneN (ns.take (q + 1)) gid))) := ⟨HFA.out.1.grown g5 (fun k e => .inr (HO1.out.lt k e).1), by rw [HG.out, flatN_app, List.length_append, HGM.out]; simpa [flatN] using o5⟩; clear o5 g5 l5 HO1 HR1 HFA))
          clear HY HG
          go_roundw
          case rel => exact ⟨q + 1, hlt, by go_num, HN⟩
          case measure => simp [intOf]; omega
        · have hb2 : (x.to == gid) = false := beq_int_false h2
          have HY : Hid (X.rangeAt bx 0 x.cl) := range_block (A := ntc x) HBX.out.1
          have HG : Hid (goneN (ns.take (q + 1)) gid = goneN (ns.take q) gid ++ [x]) := by rw [goneN_next HX.out h1, if_neg h2]; rfl
          have HFX : Hid (Fr [] W2 X ∧ X.ownsRow W2.heap.size 101 4 (.slice la (goneN (ns.take q) gid).length lc) (goneN (ns.take q) gid).length (flatN (goneN (ns.take q) gid))) := HF.out
          clear HF HX HBX h1 h2
          obtain ⟨y, hy⟩ : ∃ y : Nt, y = x := ⟨_, rfl⟩
          rw [← hy] at HY HG
          rw [← hy] at c0 c3 hb1 hb2
          generalize y.id = xi at c0 hb1
          generalize y.to = xt at c3 hb2
          clear hy
          go_upto_region 9 with fail
          clear c0 c3 z3 hb1 hb2
          obtain ⟨XB, hXB⟩ : ∃ XB, XB = X := ⟨_, rfl⟩
          subst hXB
          generalize hGM : (goneN (ns.take q) gid).length = M at *
          have FA : Fr [] XB (XB.alloc (.cells (ntc y) 101)) := (Fr.refl _ _).alloc _
          have HO1 : Hid ((XB.alloc (.cells (ntc y) 101)).ownsRow W2.heap.size 101 4 (.slice la M lc) M (flatN (goneN (ns.take q) gid))) := own_fr HFX.out.2 FA (by simp)
          have HR1 : Hid (∀ (j : Nat) u, y.cl[j]? = some u → (XB.alloc (.cells (ntc y) 101)).cell? ((⟨XB.heap.size, 0, none⟩ : Addr).add j) = some u) := fun j u hu => by have := range_block (heap_alloc_new XB (.cells (ntc y) 101)) j u (by simpa [ntc] using hu); rw [Addr.add_mid]; exact this
          have HFA : Hid (Fr [] W2 (XB.alloc (.cells (ntc y) 101)) ∧ W2.heap.size ≤ (XB.alloc (.cells (ntc y) 101)).heap.size) := ⟨HFX.out.1.trans FA, (HFX.out.1.trans FA).size⟩
          have HGM : Hid ((goneN (ns.take q) gid).length = M) := hGM
          clear FA HFX hGM
          go_wp2_with (first
            | refine wpList_ldN rfl (.tmp 7) rfl bx 0 rfl y HY.out ?_
            | refine wpList_slice1 rfl 46 101 4 32 (.tmp 53) (ntc y) _ rfl rfl cu46n ci101 (by decide) (by decide) (ntc_size y) ?_
            | (refine wpList_append_fp _ rfl (.tmp 52) (.tmp 54) 46 rfl W2.heap.size 101 ie (.agg #[.int .i64 0, .int .i64 0, .int .i64 0, .int .i64 0]) 4 32 cu46n HIE.out.1 HIE.out.2.1 HIE.out.2.2.1 HIE.out.2.2.2 rfl (by decide) (.slice la M lc) M (flatN (goneN (ns.take q) gid)) rfl HO1.out ⟨XB.heap.size, 0, none⟩ 1 1 y.cl rfl rfl HR1.out (by simp [Nt.cl, Value.oneCell']) (by have := HML.out; simp only [maxLen]; omega) (by have := HML.out; omega) HFA.out.2 ?_; intro v5 w5 o5 g5 l5; have HN : Hid (Fr [] W2 w5 ∧ w5.ownsRow W2.heap.size 101 4 v5 (goneN (ns.take (q + 1)) gid).length (flatN (goneN (ns.take (q + 1)) gid))) := ⟨HFA.out.1.grown g5 (fun k e => .inr (HO1.out.lt k e).1), by rw [HG.out, flatN_app, List.length_append, HGM.out]; simpa [flatN] using o5⟩; clear o5 g5 l5 HO1 HR1 HFA))
          clear HY HG
          go_roundw
          case rel => exact ⟨q + 1, hlt, by go_num, HN⟩
          case measure => simp [intOf]; omega
    · obtain rfl : q = ns.length := by omega
      have HE : Hid (Fr [] W2 wr ∧ wr.ownsRow W2.heap.size 101 4 (.slice la (goneN ns gid).length lc) (goneN ns gid).length (flatN (goneN ns gid))) := by
        have := F.out
        rw [List.take_length] at this
        exact this
      rw [List.take_length]
      clear F
      obtain ⟨M, hM⟩ : ∃ M, (goneN ns gid).length = M := ⟨_, rfl⟩
      have HM : Hid ((goneN ns gid).length = M) := hM
      rw [hM] at HE ⊢
      clear hM
      have k1 : wr.cell? ⟨c, 1, none⟩ = some (.slice na ns.length nc) := HE.out.1.cellNew HP2.out.1.blk (by simp) rfl
      have z1 : wr.frozen? ⟨c, 1, none⟩ = false := HE.out.1.frzNew HP2.out.1.blk (by simp)
      have hbw := (HE.out.1.block _ (Array.getElem?_eq_some_iff.1 HP2.out.1.blk).1 (by simp)).trans HP2.out.1.blk
      have f3 : Fr [c] wr (wr.setCell ⟨c, 1, none⟩ (.slice la M lc)) := (Fr.refl _ _).setCell (.inl (by simp)) _
      have hb3 := set_blk (i := 1) (v := .slice la M lc) hbw
      have hA : Away wr B [c] := away_cells hbw rfl HP2.out.1.cB
      have hP3 := HP2.out.1.fr0 HE.out.1
      have hro : ∀ k, rv'.ownBlock = some k → k ∉ [c] := fun k hk hm => by
        have : k = c := by simpa using hm
        subst this
        exact own_ne hP3.rows hbw (by decide) hk
      have hno : ∀ k, (Value.slice la M lc).ownBlock = some k → k ∉ [c] := fun k hk hm => by
        have : k = c := by simpa using hm
        subst this
        exact own_ne HE.out.2 hbw (by decide) hk
      have HFIN : Hid (RA (wr.setCell ⟨c, 1, none⟩ (.slice la M lc)) B c (rs.eraseIdx i) (goneB S i) ∧ Gm B pR false w (wr.setCell ⟨c, 1, none⟩ (.slice la M lc))) := by
        refine ⟨⟨⟨rv', .slice la M lc, pa, pcap, pf, used, ?_, HS.out.2.1, HS.out.2.2.1⟩, ?_⟩, (HP2.out.2.1.trans (Gm.ofFr0 HE.out.1)).trans (Gm.ofFr f3 (fun k hm => by
          have : k = c := by simpa using hm
          subst this
          exact .inr ⟨HP2.out.1.cB, .inl ⟨_, _, _, hbw, rfl⟩⟩))⟩
        · have hnn : (goneB S i).notes = goneN ns gid := by
            show goneN S.notes (idAt S.rows i) = _
            rw [HS.out.2.2.2.1, HP2.out.2.2.2]
          rw [hnn]
          exact ⟨hb3, own_fr hP3.rows f3 hro, by rw [HM.out]; exact own_fr (own_low HE.out.2 HP2.out.2.2.1) f3 hno, hP3.pick.fr f3 hA, fun r hr => (hP3.trs r hr).fr f3 hA, hP3.cB⟩
        · rw [← map_eraseA, HS.out.1]
          rfl
      clear hbw f3 hb3 hA hP3 hro hno HE HP2 HS
      go_wp2
      go_end0
      exact ⟨rfl, HFIN.out.1, HFIN.out.2⟩
end Go.Proofs.Ytnhjplfdfbbihaa
namespace Go.Proofs.Ytnhjplfdfbbihaa
open Go.RowKit Go.Shelf Go.Maps Go.ChangeShapes
set_option linter.unusedVariables false
set_option linter.unusedSimpArgs false
theorem kfind_lt {rs : List Rt} {S : Bk} (h : rs.map absR = S.rows) {k : Ky} {i : Nat} (hk : kfind S.rows k = some i) : i < rs.length := by
  obtain ⟨r, h1, _⟩ := kfind_some hk
  have := (List.getElem?_eq_some_iff.1 h1).1
  rw [← h, List.length_map] at this
  exact this
set_option maxRecDepth 100000 in
set_option maxHeartbeats 4000000 in
theorem drop_r {w : World} {B c n : Nat} {rs : List Rt} {S : Bk} (h : RA w B c rs S) (ho : Ok S n) (hn : n ≤ 1048576) (hBw : B ≤ w.heap.size) {k : Ky} (hk : kw k) :
    Calls Try.prog 24 #[.pointer (some ⟨c, 0, none⟩), .agg (kc k)] w fun e w' => e = .returned (.bool (kfind S.rows k).isSome) ∧ (∃ rs', RA w' B c rs' (dropB S k)) ∧ Gm B pR false w w' := by
  have F1 : Fr [] w (w.alloc (.cells (kc k) 29)) := (Fr.refl _ _).alloc _
  have HX : Hid ((w.alloc (.cells (kc k) 29)).rangeAt w.heap.size 0 (kc k).toList) := range_block (heap_alloc_new w _)
  have CF := find_any (h.fr0 F1) ho hk
  have HC : Hid (RA (w.alloc (.cells (kc k) 29)) B c rs S ∧ Ok S n ∧ n ≤ 1048576 ∧ B ≤ (w.alloc (.cells (kc k) 29)).heap.size ∧ Fr [] w (w.alloc (.cells (kc k) 29))) := ⟨h.fr0 F1, ho, hn, Nat.le_trans hBw F1.size, F1⟩
  have habs := h.abs
  have HAB : Hid (rs.map absR = S.rows) := habs
  clear h ho hn hBw F1 habs
  cases hkf : kfind S.rows k with
  | none =>
    rw [hkf] at CF
    change Calls Try.prog 36 _ _ (fun e w' => e = .returned (.int .i64 (-1)) ∧ _) at CF
    have HD : Hid (dropB S k = S) := by show dropB S k = S; unfold dropB; rw [hkf]
    clear hkf
    go_enter Try.func24, Try.ntmps24
    go_upto_region 1 with fail
    generalize w.alloc (.cells (kc k) 29) = V at *
    generalize w.heap.size = kb at *
    go_wp2_with (first
      | refine wpList_ld29 rfl (.tmp 3) rfl kb 0 rfl k HX.out ?_
      | (go_at_call 36; refine CF.mono ?_; rintro e w1 ⟨rfl, f1⟩; have HF1 : Hid (Fr [] V w1) := f1; clear f1 CF HX))
    go_ret
    exact ⟨rfl, ⟨rs, by rw [HD.out]; exact HC.out.1.fr0 HF1.out⟩, (Gm.ofFr0 (HC.out.2.2.2.2.trans HF1.out))⟩
  | some i =>
    rw [hkf] at CF
    change Calls Try.prog 36 _ _ (fun e w' => e = .returned (.int .i64 (i : Int)) ∧ _) at CF
    have HD : Hid (dropB S k = goneB S i ∧ i < rs.length) := ⟨by unfold dropB; rw [hkf], kfind_lt HAB.out hkf⟩
    have hi0 : (0 : Int) ≤ (i : Int) := by omega
    clear hkf
    go_enter Try.func24, Try.ntmps24
    go_upto_region 1 with fail
    generalize w.alloc (.cells (kc k) 29) = V at *
    generalize w.heap.size = kb at *
    go_wp2_with (first
      | refine wpList_ld29 rfl (.tmp 3) rfl kb 0 rfl k HX.out ?_
      | (go_at_call 36; refine CF.mono ?_; rintro e w1 ⟨rfl, f1⟩; have HF1 : Hid (Fr [] V w1) := f1; have CG := gone_any (HC.out.1.fr0 f1) HC.out.2.1 HC.out.2.2.1 (Nat.le_trans HC.out.2.2.2.1 f1.size) HD.out.2; clear f1 CF HX)
      | (go_at_call 37; refine CG.mono ?_; rintro e w2 ⟨rfl, h2, g2⟩; have H2 : Hid (RA w2 B c (rs.eraseIdx i) (goneB S i) ∧ Gm B pR false w1 w2) := ⟨h2, g2⟩; clear h2 g2 CG))
    go_ret
    exact ⟨rfl, ⟨_, by rw [HD.out.1]; exact H2.out.1⟩, (Gm.ofFr0 (HC.out.2.2.2.2.trans HF1.out)).trans H2.out.2⟩
theorem res28 : Try.f28.results = #[.cell 4 35, .tmp 5, .tmp 6] := by kernel_rfl
theorem tr_rangeR {w : World} {g o : Nat} {r : Rt} (h : w.rangeAt g o (evl r)) : w.rangeAt g (o + 1) r.2.cl := fun j v hv => by
  have := h (j + 1) v (by simpa [evl] using hv)
  rw [show o + 1 + j = o + (j + 1) by omega]
  exact this
theorem getB_kf {rs : List Rt} {S : Bk} (h : rs.map absR = S.rows) (k : Ky) : (kfind S.rows k = none ∧ getB S k = none) ∨ ∃ i r, kfind S.rows k = some i ∧ rs[i]? = some r ∧ getB S k = some (absR r) := by
  rcases fnd_kf h k with ⟨h1, h2⟩ | ⟨i, r, h1, _, h3, h4⟩
  · exact .inl ⟨h2, by rw [fnd_get h, h1]; rfl⟩
  · exact .inr ⟨i, r, h4, h1, by rw [fnd_get h, h3]; rfl⟩
set_option maxRecDepth 100000 in
set_option maxHeartbeats 4000000 in
theorem get_r {w : World} {B c n : Nat} {rs : List Rt} {S : Bk} (h : RA w B c rs S) (ho : Ok S n) (hBw : B ≤ w.heap.size) {k : Ky} (hk : kw k) :
    Calls Try.prog 28 #[.pointer (some ⟨c, 0, none⟩), .agg (kc k)] w fun e w' => ∃ t' : Tr, e = .returned (.tuple #[.agg t'.arr, .int .i64 (((getB S k).map (·.1)).getD 0), .bool (getB S k).isSome]) ∧ t'.abs = ((getB S k).map (·.2)).getD tr0.abs ∧ TrOk w' B t' ∧ Fr [] w w' := by
  have F1 : Fr [] w ((w.alloc (.cells (kc k) 29)).alloc (.cells #[.int .i64 0, .int .i64 0, .int .i64 0, .int .i64 0, .int .i64 0, .int .i64 0, .int .i64 0, .int .i64 0, .int .i64 0, .int .i64 0, .int .i64 0, .int .i64 0, .slice none 0 0, .slice none 0 0, .slice none 0 0, .slice none 0 0, .slice none 0 0] 35)) := ((Fr.refl _ _).alloc _).alloc _
  have hx := (((Fr.refl [] (w.alloc (.cells (kc k) 29))).alloc (.cells #[.int .i64 0, .int .i64 0, .int .i64 0, .int .i64 0, .int .i64 0, .int .i64 0, .int .i64 0, .int .i64 0, .int .i64 0, .int .i64 0, .int .i64 0, .int .i64 0, .slice none 0 0, .slice none 0 0, .slice none 0 0, .slice none 0 0, .slice none 0 0] 35)).block _ (by simp) (by simp)).trans (heap_alloc_new w (.cells (kc k) 29))
  have hy : ((w.alloc (.cells (kc k) 29)).alloc (.cells #[.int .i64 0, .int .i64 0, .int .i64 0, .int .i64 0, .int .i64 0, .int .i64 0, .int .i64 0, .int .i64 0, .int .i64 0, .int .i64 0, .int .i64 0, .int .i64 0, .slice none 0 0, .slice none 0 0, .slice none 0 0, .slice none 0 0, .slice none 0 0] 35)).heap[w.heap.size + 1]? = _ := blk2 w (.cells (kc k) 29) (.cells #[.int .i64 0, .int .i64 0, .int .i64 0, .int .i64 0, .int .i64 0, .int .i64 0, .int .i64 0, .int .i64 0, .int .i64 0, .int .i64 0, .int .i64 0, .int .i64 0, .slice none 0 0, .slice none 0 0, .slice none 0 0, .slice none 0 0, .slice none 0 0] 35)
  have CF := find_any (h.fr0 F1) ho hk
  have HX : Hid (((w.alloc (.cells (kc k) 29)).alloc (.cells #[.int .i64 0, .int .i64 0, .int .i64 0, .int .i64 0, .int .i64 0, .int .i64 0, .int .i64 0, .int .i64 0, .int .i64 0, .int .i64 0, .int .i64 0, .int .i64 0, .slice none 0 0, .slice none 0 0, .slice none 0 0, .slice none 0 0, .slice none 0 0] 35)).rangeAt w.heap.size 0 (kc k).toList) := range_block hx
  have HC : Hid (RA ((w.alloc (.cells (kc k) 29)).alloc (.cells #[.int .i64 0, .int .i64 0, .int .i64 0, .int .i64 0, .int .i64 0, .int .i64 0, .int .i64 0, .int .i64 0, .int .i64 0, .int .i64 0, .int .i64 0, .int .i64 0, .slice none 0 0, .slice none 0 0, .slice none 0 0, .slice none 0 0, .slice none 0 0] 35)) B c rs S ∧ Ok S n ∧ Fr [] w ((w.alloc (.cells (kc k) 29)).alloc (.cells #[.int .i64 0, .int .i64 0, .int .i64 0, .int .i64 0, .int .i64 0, .int .i64 0, .int .i64 0, .int .i64 0, .int .i64 0, .int .i64 0, .int .i64 0, .int .i64 0, .slice none 0 0, .slice none 0 0, .slice none 0 0, .slice none 0 0, .slice none 0 0] 35)) ∧ w.heap.size < w.heap.size + 1 ∧ ((w.alloc (.cells (kc k) 29)).alloc (.cells #[.int .i64 0, .int .i64 0, .int .i64 0, .int .i64 0, .int .i64 0, .int .i64 0, .int .i64 0, .int .i64 0, .int .i64 0, .int .i64 0, .int .i64 0, .int .i64 0, .slice none 0 0, .slice none 0 0, .slice none 0 0, .slice none 0 0, .slice none 0 0] 35)).heap[w.heap.size + 1]? = some (.cells #[.int .i64 0, .int .i64 0, .int .i64 0, .int .i64 0, .int .i64 0, .int .i64 0, .int .i64 0, .int .i64 0, .int .i64 0, .int .i64 0, .int .i64 0, .int .i64 0, .slice none 0 0, .slice none 0 0, .slice none 0 0, .slice none 0 0, .slice none 0 0] 35 (0, 0)) ∧ B ≤ w.heap.size + 1) := ⟨h.fr0 F1, ho, F1, by omega, hy, by omega⟩
  have HWK : Hid (w.heap.size ≤ w.heap.size + 1) := by show _ ≤ _; omega
  have habs := h.abs
  clear h ho hBw F1 hx hy
  rcases getB_kf habs k with ⟨h1, h2⟩ | ⟨i, r, h1, h2, h3⟩
  · rw [h1] at CF
    change Calls Try.prog 36 _ _ (fun e w' => e = .returned (.int .i64 (-1)) ∧ _) at CF
    rw [h2]
    clear h1 h2 habs
    go_enter Try.func28, Try.ntmps28
    go_upto_region 1 with fail
    generalize (w.alloc (.cells (kc k) 29)).alloc (.cells #[.int .i64 0, .int .i64 0, .int .i64 0, .int .i64 0, .int .i64 0, .int .i64 0, .int .i64 0, .int .i64 0, .int .i64 0, .int .i64 0, .int .i64 0, .int .i64 0, .slice none 0 0, .slice none 0 0, .slice none 0 0, .slice none 0 0, .slice none 0 0] 35) = V at *
    generalize hkb : w.heap.size + 1 = kb2 at *
    generalize hkc : w.heap.size = kb at *
    have HKB : Hid (w.heap.size ≤ kb2) := by show _ ≤ _; omega
    clear hkb hkc
    go_upto_region 3 with (first
      | refine wpList_ld29 rfl (.tmp 3) rfl kb 0 rfl k HX.out ?_
      | (go_at_call 36; refine CF.mono ?_; rintro e w1 ⟨rfl, f1⟩; have HF1 : Hid (Fr [] V w1) := f1; clear f1 CF HX))
    have hy1 := (HF1.out.block _ (Array.getElem?_eq_some_iff.1 HC.out.2.2.2.2.1).1 (by simp)).trans HC.out.2.2.2.2.1
    have HA : Hid (w1.heap[kb2]? = some (.cells #[.int .i64 0, .int .i64 0, .int .i64 0, .int .i64 0, .int .i64 0, .int .i64 0, .int .i64 0, .int .i64 0, .int .i64 0, .int .i64 0, .int .i64 0, .int .i64 0, .slice none 0 0, .slice none 0 0, .slice none 0 0, .slice none 0 0, .slice none 0 0] 35 (0, 0))) := hy1
    have HB : Hid ((w1.setRow kb2 tr0.arr).heap[kb2]? = some (.cells tr0.arr 35 (0, 0))) := setRow_heap _ _ _ tr0.arr _ _ hy1
    have HF : Hid (Fr [] w (w1.setRow kb2 tr0.arr)) := (HC.out.2.2.1.trans HF1.out).setRow (.inr HKB.out) _
    clear hy1
    go_wp2_with (refine wpList_store_row rfl 35 (.tmp 4) (.tmp 13) rfl kb2 tr0.arr rfl rfl 35 _ HA.out (by rw [tr0.arr_size]; exact info35) (by rw [tr0.arr_size]; rfl) tr0.arr_one ?_)
    exact bodyPost_ret (results35c res28 tr0.arr_size rfl HB.out) rfl ⟨tr0, rfl, rfl, tr0_ok _ _, HF.out⟩
  · rw [h1] at CF
    change Calls Try.prog 36 _ _ (fun e w' => e = .returned (.int .i64 (i : Int)) ∧ _) at CF
    rw [h3]
    have hi0 : (0 : Int) ≤ (i : Int) := by omega
    have hi2 : i < rs.length := (List.getElem?_eq_some_iff.1 h2).1
    have HR : Hid (rs[i]? = some r) := h2
    clear h1 h2 h3 habs
    go_enter Try.func28, Try.ntmps28
    go_upto_region 1 with fail
    generalize (w.alloc (.cells (kc k) 29)).alloc (.cells #[.int .i64 0, .int .i64 0, .int .i64 0, .int .i64 0, .int .i64 0, .int .i64 0, .int .i64 0, .int .i64 0, .int .i64 0, .int .i64 0, .int .i64 0, .int .i64 0, .slice none 0 0, .slice none 0 0, .slice none 0 0, .slice none 0 0, .slice none 0 0] 35) = V at *
    generalize hkb : w.heap.size + 1 = kb2 at *
    generalize hkc : w.heap.size = kb at *
    have HKB : Hid (w.heap.size ≤ kb2) := by show _ ≤ _; omega
    clear hkb hkc
    go_upto_region 4 with (first
      | refine wpList_ld29 rfl (.tmp 3) rfl kb 0 rfl k HX.out ?_
      | (go_at_call 36; refine CF.mono ?_; rintro e w1 ⟨rfl, f1⟩; have HF1 : Hid (Fr [] V w1) := f1; clear f1 CF HX))
    have hy1 := (HF1.out.block _ (Array.getElem?_eq_some_iff.1 HC.out.2.2.2.2.1).1 (by simp)).trans HC.out.2.2.2.2.1
    obtain ⟨rv, nv, pa, pcap, pf, used, hp, _⟩ := (HC.out.1.fr0 HF1.out).ex
    obtain ⟨ra, rc, rfl, _⟩ := own_slice hp.rows
    obtain ⟨g, rfl⟩ : ∃ g, ra = some ⟨g, 0, none⟩ := by
      obtain ⟨g, c', e1, _⟩ := own_cells hp.rows (j := i * 18) (List.getElem?_eq_getElem (by rw [flatR_len]; omega))
      cases e1; exact ⟨g, rfl⟩
    have hck : c ≠ kb2 := by rintro rfl; exact absurd (ne_cells hp.blk hy1) (by decide)
    have LC : Hid (∀ w', Fr [kb2] w1 w' → w'.cell? ⟨c, 0, none⟩ = some (.slice (some ⟨g, 0, none⟩) rs.length rc)) := fun w' f => f.cellNew hp.blk (by simpa using hck) rfl
    have LR : Hid (∀ w', Fr [kb2] w1 w' → w'.rangeAt g (i * 18) (evl r)) := fun w' f => rowR_at (own_fr hp.rows f (fun j hj hm => by
      have : j = kb2 := by simpa using hm
      subst this
      exact own_ne hp.rows hy1 (by decide) hj)) HR.out
    have HT : Hid (TrOk w1 B r.2 ∧ w1.heap[kb2]? = some (.cells #[.int .i64 0, .int .i64 0, .int .i64 0, .int .i64 0, .int .i64 0, .int .i64 0, .int .i64 0, .int .i64 0, .int .i64 0, .int .i64 0, .int .i64 0, .int .i64 0, .slice none 0 0, .slice none 0 0, .slice none 0 0, .slice none 0 0, .slice none 0 0] 35 (0, 0))) := ⟨hp.trs r (List.mem_of_getElem? HR.out), hy1⟩
    have hiI : (i : Int) < (rs.length : Int) := by omega
    clear hp hck hy1 HR
    refine reg_in (fun w' => Fr [kb2] w1 w') ?_
    have hS : Fr [kb2] w1 w1.drew := (Fr.refl _ _).drew
    have hbY : w1.drew.heap[kb2]? = some (.cells #[.int .i64 0, .int .i64 0, .int .i64 0, .int .i64 0, .int .i64 0, .int .i64 0, .int .i64 0, .int .i64 0, .int .i64 0, .int .i64 0, .int .i64 0, .int .i64 0, .slice none 0 0, .slice none 0 0, .slice none 0 0, .slice none 0 0, .slice none 0 0] 35 (0, 0)) := HT.out.2
    have HTY : Hid (TrOk w1.drew B r.2) := HT.out.1.fr0 (Fr.refl _ _).drew
    generalize w1.drew = Y at *
    refine tk 0 (some 14) (.pointer (some ⟨c, 0, none⟩)) rfl rfl (Or.inl ⟨rfl, fun wq hSq => by first | rfl | go_simp⟩) (by decide +kernel) hS ?_
    simp only [Act.put, List.setIfInBounds_toArray, List.set_cons_zero, List.set_cons_succ]
    refine tk 1 (some 15) (.pointer (some ⟨c, 0, none⟩)) rfl rfl (Or.inl ⟨rfl, fun wq hSq => by first | rfl | go_simp⟩) (by decide +kernel) hS ?_
    simp only [Act.put, List.setIfInBounds_toArray, List.set_cons_zero, List.set_cons_succ]
    refine tk 2 (some 16) (.pointer (some ⟨c, 0, none⟩)) rfl rfl (Or.inl ⟨rfl, fun wq hSq => by first | rfl | go_simp⟩) (by decide +kernel) hS ?_
    simp only [Act.put, List.setIfInBounds_toArray, List.set_cons_zero, List.set_cons_succ]
    refine tk 3 (some 17) (.slice (some ⟨g, 0, none⟩) rs.length rc) rfl rfl (Or.inl ⟨rfl, fun wq hSq => by have q := LC.out wq hSq; go_simp⟩) (by decide +kernel) hS ?_
    simp only [Act.put, List.setIfInBounds_toArray, List.set_cons_zero, List.set_cons_succ]
    refine tk 4 (some 18) (.int .i64 (i : Int)) rfl rfl (Or.inl ⟨rfl, fun wq hSq => by first | rfl | go_simp⟩) (by decide +kernel) hS ?_
    simp only [Act.put, List.setIfInBounds_toArray, List.set_cons_zero, List.set_cons_succ]
    refine tk 5 (some 19) (.pointer (some ⟨g, i * 18, none⟩)) rfl rfl (Or.inl ⟨rfl, fun wq hSq => by go_simp⟩) (by decide +kernel) hS ?_
    simp only [Act.put, List.setIfInBounds_toArray, List.set_cons_zero, List.set_cons_succ]
    refine tk 6 (some 20) (.pointer (some ⟨g, i * 18 + 1, none⟩)) rfl rfl (Or.inl ⟨rfl, fun wq hSq => by go_simp⟩) (by decide +kernel) hS ?_
    simp only [Act.put, List.setIfInBounds_toArray, List.set_cons_zero, List.set_cons_succ]
    refine tk 7 (some 21) (.agg r.2.arr) rfl rfl ?_ (by decide +kernel) hS ?_
    · exact yieldsIf_load_mid rfl 35 (.tmp 20) rfl g (i * 18 + 1) rfl r.2.cl _ (fun wq hSq => tr_rangeR (LR.out wq hSq)) Try.underlying35 rfl (by rw [Tr.cl_len]; exact info35)
    simp only [Act.put, List.setIfInBounds_toArray, List.set_cons_zero, List.set_cons_succ]
    refine tk 8 (some 22) (.pointer (some ⟨c, 0, none⟩)) rfl rfl (Or.inl ⟨rfl, fun wq hSq => by first | rfl | go_simp⟩) (by decide +kernel) hS ?_
    simp only [Act.put, List.setIfInBounds_toArray, List.set_cons_zero, List.set_cons_succ]
    refine tk 9 (some 23) (.pointer (some ⟨c, 0, none⟩)) rfl rfl (Or.inl ⟨rfl, fun wq hSq => by first | rfl | go_simp⟩) (by decide +kernel) hS ?_
    simp only [Act.put, List.setIfInBounds_toArray, List.set_cons_zero, List.set_cons_succ]
    refine tk 10 (some 24) (.pointer (some ⟨c, 0, none⟩)) rfl rfl (Or.inl ⟨rfl, fun wq hSq => by first | rfl | go_simp⟩) (by decide +kernel) hS ?_
    simp only [Act.put, List.setIfInBounds_toArray, List.set_cons_zero, List.set_cons_succ]
    refine tk 11 (some 25) (.slice (some ⟨g, 0, none⟩) rs.length rc) rfl rfl (Or.inl ⟨rfl, fun wq hSq => by have q := LC.out wq hSq; go_simp⟩) (by decide +kernel) hS ?_
    simp only [Act.put, List.setIfInBounds_toArray, List.set_cons_zero, List.set_cons_succ]
    refine tk 12 (some 26) (.int .i64 (i : Int)) rfl rfl (Or.inl ⟨rfl, fun wq hSq => by first | rfl | go_simp⟩) (by decide +kernel) hS ?_
    simp only [Act.put, List.setIfInBounds_toArray, List.set_cons_zero, List.set_cons_succ]
    refine tk 13 (some 27) (.pointer (some ⟨g, i * 18, none⟩)) rfl rfl (Or.inl ⟨rfl, fun wq hSq => by go_simp⟩) (by decide +kernel) hS ?_
    simp only [Act.put, List.setIfInBounds_toArray, List.set_cons_zero, List.set_cons_succ]
    refine tk 14 (some 28) (.pointer (some ⟨g, i * 18, none⟩)) rfl rfl (Or.inl ⟨rfl, fun wq hSq => by go_simp⟩) (by decide +kernel) hS ?_
    simp only [Act.put, List.setIfInBounds_toArray, List.set_cons_zero, List.set_cons_succ]
    refine tk 15 (some 29) (.int .i64 r.1) rfl rfl (Or.inl ⟨rfl, fun wq hSq => by have q : wq.cell? ⟨g, i * 18, none⟩ = some (.int .i64 r.1) := LR.out wq hSq 0 _ rfl; go_simp⟩) (by decide +kernel) hS ?_
    simp only [Act.put, List.setIfInBounds_toArray, List.set_cons_zero, List.set_cons_succ]
    refine wpAnyH_ready (rs := [16]) (by decide +kernel) (by simp) ?_
    refine AllReadyH.cons rfl (fun K hK => ?_) AllReadyH.nil
    refine wp_store_row 35 (.tmp 4) (.tmp 21) rfl kb2 r.2.arr rfl rfl 35 _ hbY (by rw [r.2.arr_size]; exact info35) (by rw [r.2.arr_size]; rfl) r.2.arr_one ?_
    have hyQ := setRow_heap Y kb2 _ r.2.arr _ _ hbY
    have hS := hS.setRow (g := kb2) (.inl (by simp)) r.2.arr
    have HQ : Hid (TrOk (Y.setRow kb2 r.2.arr) B r.2) := HTY.out.fr (S := [kb2]) ((Fr.refl _ _).setRow (.inl (by simp)) _) (away_cells hbY rfl HC.out.2.2.2.2.2)
    generalize Y.setRow kb2 r.2.arr = Q at *
    refine hK.out _ _ hS (fun _ => ?_)
    clear hK K
    try simp only [List.getElem_toArray, List.getElem_cons_succ, List.getElem_cons_zero, Act.put, List.setIfInBounds_toArray, List.set_cons_zero, List.set_cons_succ]
    refine tk 17 (some 5) (.int .i64 r.1) rfl rfl (Or.inl ⟨rfl, fun wq hSq => by first | rfl | go_simp⟩) (by decide +kernel) hS ?_
    simp only [Act.put, List.setIfInBounds_toArray, List.set_cons_zero, List.set_cons_succ]
    refine tk 18 (some 6) (.bool true) rfl rfl (Or.inl ⟨rfl, fun wq hSq => by first | rfl | go_simp⟩) (by decide +kernel) hS ?_
    simp only [Act.put, List.setIfInBounds_toArray, List.set_cons_zero, List.set_cons_succ]
    refine wpAnyH_done (by decide +kernel) ?_ _
    refine plain_end ?_
    have HFF : Hid (Fr [] w Q) := (((HC.out.2.2.1.trans HF1.out).sub (T := [kb2]) (by simp)).trans hS).sub (fun j hj => by
      have : j = kb2 := by simpa using hj
      have := HKB.out
      right; omega)
    have HQQ : Hid (Q.heap[kb2]? = some (.cells r.2.arr 35 (0, 0))) := hyQ
    clear hS hyQ LC LR
    go_wp2
    exact bodyPost_ret (results35c res28 r.2.arr_size rfl HQQ.out) rfl ⟨r.2, rfl, rfl, HQ.out, HFF.out⟩
end Go.Proofs.Ytnhjplfdfbbihaa
