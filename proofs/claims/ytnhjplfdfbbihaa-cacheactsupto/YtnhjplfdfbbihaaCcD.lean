/-
  What the document notes of a place: found or laid down, counted, led on, told; condition: the cache lies as told.
-/
import Derived.Test.YtnhjplfdfbbihaaCcC
namespace Go.Proofs.Ytnhjplfdfbbihaa
open Go.RowKit Go.Shelf Go.Maps Go.ChangeShapes
set_option linter.unusedVariables false
set_option linter.unusedSimpArgs false
theorem updN_at {u : Nt → Nt} {i p : Int} : ∀ {L : List Nt} {j : Nat} {x : Nt}, L[j]? = some x → x.id = i ∧ x.op = p → (∀ j' y, j' < j → L[j']? = some y → ¬ (y.id = i ∧ y.op = p)) → updN L i p u = L.set j (u x) ∧ nfnd L i p = some x
  | [], j, x, h, _, _ => by simp at h
  | n :: L, 0, x, h, hx, _ => by
    simp at h
    subst h
    refine ⟨by simp [updN, hx], by simp [nfnd, hx]⟩
  | n :: L, j + 1, x, h, hx, hn => by
    have h0 := hn 0 n (by omega) rfl
    obtain ⟨e1, e2⟩ := updN_at (L := L) (j := j) (x := x) (u := u) (by simpa using h) hx (fun j' y hj hy => hn (j' + 1) y (by omega) (by simpa using hy))
    refine ⟨by rw [updN, if_neg h0, e1]; rfl, ?_⟩
    unfold nfnd at e2 ⊢
    rw [List.find?_cons]
    simp only [h0, decide_false]
    exact e2
theorem updN_no {u : Nt → Nt} {i p : Int} : ∀ {L : List Nt}, (∀ y ∈ L, ¬ (y.id = i ∧ y.op = p)) → updN L i p u = (L ++ [(⟨i, p, 0, 0⟩ : Nt)]).set L.length (u ⟨i, p, 0, 0⟩) ∧ nfnd L i p = none
  | [], _ => ⟨rfl, rfl⟩
  | n :: L, h => by
    have h0 := h n (by simp)
    obtain ⟨e1, e2⟩ := updN_no (L := L) (u := u) (i := i) (p := p) (fun y hy => h y (by simp [hy]))
    refine ⟨by rw [updN, if_neg h0, e1]; rfl, ?_⟩
    unfold nfnd at e2 ⊢
    rw [List.find?_cons]
    simp only [h0, decide_false]
    exact e2
theorem rowN_at {w : World} {B g c n : Nat} {L : List Nt} (h : w.ownsRow B 101 4 (.slice (some ⟨g, 0, none⟩) n c) L.length (flatN L)) {i : Nat} {x : Nt} (hx : L[i]? = some x) : w.rangeAt g (i * 4) x.cl := fun j v hv => by
  have hj : j < 4 := (List.getElem?_eq_some_iff.1 hv).1
  have h2 := flat_at (f := Nt.cl) (fun x _ => rfl) hx j hj
  obtain ⟨g', c', e1, hc, _⟩ := own_cells h (h2.trans hv)
  cases e1
  exact hc
section
variable {w w' : World} {B c : Nat} {rv nv : Value} {lim : Nat} {pa : Option Addr} {pcap : Nat} {pf : List Int} {used last top : Nat} {rs : List Rt} {ns : List Nt}
theorem RP.gmBlk (h : RP w B c rv nv lim pa pcap pf used last top rs ns) (f : Fr [c] w w') : Gm B pR false w w' :=
  Gm.ofFr f (fun k hm => by
    have : k = c := by simpa using hm
    subst this
    exact .inr ⟨h.cB, .inl ⟨_, _, _, h.blk, rfl⟩⟩)
/-- A note is changed in its place. -/
theorem RP.setNote {g cap : Nat} (h : RP w B c rv (.slice (some ⟨g, 0, none⟩) ns.length cap) lim pa pcap pf used last top rs ns) {j : Nat} {x y : Nt} (hj : ns[j]? = some x) (q : Nat) (hq : q < 4) (v : Value) (hy : y.cl = x.cl.set q v) :
    RP (w.setCell ⟨g, j * 4 + q, none⟩ v) B c rv (.slice (some ⟨g, 0, none⟩) ns.length cap) lim pa pcap pf used last top rs (ns.set j y) ∧ Gm B pR false w (w.setCell ⟨g, j * 4 + q, none⟩ v) := by
  have f : Fr [g] w (w.setCell ⟨g, j * 4 + q, none⟩ v) := (Fr.refl _ _).setCell (.inl (by simp)) _
  have hjl := (List.getElem?_eq_some_iff.1 hj).1
  obtain ⟨hgB, cur, hg⟩ := own_block h.notes
  have hA : Away w B [g] := away_cells hg rfl hgB
  have hcg : c ∉ [g] := by
    intro hm
    have : c = g := by simpa using hm
    subst this
    exact absurd (ne_cells h.blk hg) (by decide)
  refine ⟨⟨(f.block c (Array.getElem?_eq_some_iff.1 h.blk).1 hcg).trans h.blk, own_fr h.rows f (fun k hk hm => by
    have : k = g := by simpa using hm
    subst this
    exact own_ne h.rows hg (by decide) hk), ?_, h.pick.fr f hA, fun r hr => (h.trs r hr).fr f hA, h.cB⟩, Gm.ofFr f (fun k hm => by
    have : k = g := by simpa using hm
    subst this
    exact .inr ⟨hgB, .inl ⟨_, _, _, hg, rfl⟩⟩)⟩
  have h1 := own_set h.notes (j * 4 + q) v (by omega)
  have h2 : (flatN ns).set (j * 4 + q) v = flatN (ns.set j y) := flat_set (f := Nt.cl) (m := 4) (fun x _ => rfl) hj hq hy
  rw [h2] at h1
  rw [List.length_set]
  exact h1
end
theorem cu46n : Try.prog.underlying 46 = some (.slice 101) := by kernel_rfl
theorem ci101 : (Try.prog.info? 101).map (fun i => (i.zero, i.size, i.bytes)) = some (some (.agg #[.int .i64 0, .int .i64 0, .int .i64 0, .int .i64 0]), 4, 32) := by kernel_rfl
/-- What is told of a note that was found or laid down. -/
def NoteQ (B c : Nat) (rv : Value) (lim : Nat) (pa : Option Addr) (pcap : Nat) (pf : List Int) (used last top : Nat) (rs : List Rt) (ns : List Nt) (i p : Int) (w w' : World) (g j : Nat) : Prop :=
  ∃ (ns' : List Nt) (cap : Nat) (x : Nt), RP w' B c rv (.slice (some ⟨g, 0, none⟩) ns'.length cap) lim pa pcap pf used last top rs ns' ∧ ns'[j]? = some x ∧ x = (nfnd ns i p).getD ⟨i, p, 0, 0⟩ ∧ (∀ u, updN ns i p u = ns'.set j (u x)) ∧ Gm B pR false w w'
set_option maxRecDepth 100000 in
set_option maxHeartbeats 8000000 in
theorem note_any {w : World} {B c : Nat} {rv nv : Value} {lim : Nat} {pa : Option Addr} {pcap : Nat} {pf : List Int} {used last top : Nat} {rs : List Rt} {ns : List Nt} (h : RP w B c rv nv lim pa pcap pf used last top rs ns) (hBw : B ≤ w.heap.size) (hn : ns.length ≤ 1048576) (i p : Int) :
    Calls Try.prog 39 #[.pointer (some ⟨c, 0, none⟩), .int .i64 i, .int .i64 p] w fun e w' => ∃ g j, e = .returned (.pointer (some ⟨g, j * 4, none⟩)) ∧ NoteQ B c rv lim pa pcap pf used last top rs ns i p w w' g j := by
  obtain ⟨na, nc, rfl, hnil⟩ := own_slice h.notes
  have k1 : w.cell? ⟨c, 1, none⟩ = some (.slice na ns.length nc) := at_cells h.blk 1 rfl
  have z1 : w.frozen? ⟨c, 1, none⟩ = false := frz h.blk
  have HP : Hid (RP w B c rv (.slice na ns.length nc) lim pa pcap pf used last top rs ns ∧ B ≤ w.heap.size ∧ ns.length ≤ 1048576) := ⟨h, hBw, hn⟩
  obtain ⟨N, hN⟩ : ∃ N : Int, N = ns.length := ⟨_, rfl⟩
  have hNI : N ≤ 1048576 := by omega
  have HNN : Hid (N = ns.length) := hN
  have L1 : Hid (∀ w', Fr [] w w' → w'.cell? ⟨c, 1, none⟩ = some (.slice na ns.length nc)) := fun w' f => f.cell1 (by exact k1) (by simp)
  clear h hBw hnil hN
  go_enter Try.func39, Try.ntmps39
  go_wp2
  go_loopw [13] (fun i' wr => ∃ q : Nat, q ≤ ns.length ∧ i' = .int .i64 q ∧ wr = w ∧ Hid (∀ j y, j < q → ns[j]? = some y → ¬ (y.id = i ∧ y.op = p))) (fun i _ => ns.length - (intOf i).toNat)
  case atStart => exact ⟨0, Nat.zero_le _, rfl, rfl, fun j y hj => by omega⟩
  case round =>
    obtain ⟨q, hq, rfl, rfl, F⟩ := hrel
    by_cases hlt : q < ns.length
    · have hltI : (q : Int) < ns.length := by omega
      obtain ⟨x, hx⟩ : ∃ x, ns[q]? = some x := ⟨_, List.getElem?_eq_getElem hlt⟩
      obtain ⟨g, rfl⟩ : ∃ g, na = some ⟨g, 0, none⟩ := by
        obtain ⟨g, c', e1, _⟩ := own_cells HP.out.1.notes (j := q * 4) (List.getElem?_eq_getElem (by rw [flatN_len]; omega))
        cases e1; exact ⟨g, rfl⟩
      have R := rowN_at HP.out.1.notes hx
      have c0 : wr.cell? ⟨g, q * 4, none⟩ = some (.int .i64 x.id) := R 0 _ rfl
      have c1 : wr.cell? ⟨g, q * 4 + 1, none⟩ = some (.int .i64 x.op) := R 1 _ rfl
      have hq1 : (q : Int) + 1 ≤ 1048577 := by omega
      clear R
      by_cases hm : x.id = i ∧ x.op = p
      · have HR : Hid (NoteQ B c rv lim pa pcap pf used last top rs ns i p wr wr g q) := by
          have hu := fun u => updN_at (u := u) hx hm F.out
          exact ⟨ns, nc, x, HP.out.1, hx, by rw [(hu id).2]; rfl, fun u => (hu u).1, Gm.refl _ _ _ _⟩
        obtain ⟨h1, h2⟩ := hm
        rw [h1] at c0
        rw [h2] at c1
        clear F hx h1 h2
        go_wp2
        go_ret
        exact ⟨g, q, rfl, HR.out⟩
      · have HN : Hid (∀ j y, j < q + 1 → ns[j]? = some y → ¬ (y.id = i ∧ y.op = p)) := fun j y hj hy => by
          rcases Nat.lt_or_ge j q with h | h
          · exact F.out j y h hy
          · obtain rfl : j = q := by omega
            rw [hx] at hy
            cases hy
            exact hm
        generalize x.id = xi at *
        generalize x.op = xo at *
        clear F hx
        by_cases h1 : xi = i
        · have h2 : ¬ (xo = p) := fun e => hm ⟨h1, e⟩
          rw [h1] at c0
          have hbq : (xo == p) = false := beq_int_false h2
          clear hm h1 h2 hn hNI
          go_wp2
          go_roundw
          case rel => exact ⟨q + 1, hlt, by go_num, by trivial, HN⟩
          case measure => simp [intOf]; omega
        · clear hm
          go_wp2
          go_roundw
          case rel => exact ⟨q + 1, hlt, by go_num, by trivial, HN⟩
          case measure => simp [intOf]; omega
    · obtain rfl : q = ns.length := by omega
      have hno : ∀ y ∈ ns, ¬ (y.id = i ∧ y.op = p) := fun y hy => by
        obtain ⟨j, hj⟩ := List.getElem?_of_mem hy
        exact F.out j y (List.getElem?_eq_some_iff.1 hj).1 hj
      have HU : Hid (∀ y ∈ ns, ¬ (y.id = i ∧ y.op = p)) := hno
      obtain ⟨ie, i1, i2, i3, i4⟩ := info_parts ci101
      have HIE : Hid (Try.prog.info? 101 = some ie ∧ ie.zero = some (.agg #[.int .i64 0, .int .i64 0, .int .i64 0, .int .i64 0]) ∧ ie.size = 4 ∧ ie.bytes = 32) := ⟨i1, i2, i3, i4⟩
      have FA : Fr [] wr (wr.alloc (.cells #[.int .i64 i, .int .i64 p, .int .i64 0, .int .i64 0] 101)) := (Fr.refl _ _).alloc _
      have HO1 : Hid ((wr.alloc (.cells #[.int .i64 i, .int .i64 p, .int .i64 0, .int .i64 0] 101)).ownsRow B 101 4 (.slice na ns.length nc) ns.length (flatN ns)) := own_fr HP.out.1.notes FA (by simp)
      have HR1 : Hid (∀ (j : Nat) u, ([.int .i64 i, .int .i64 p, .int .i64 0, .int .i64 0] : List Value)[j]? = some u → (wr.alloc (.cells #[.int .i64 i, .int .i64 p, .int .i64 0, .int .i64 0] 101)).cell? ((⟨wr.heap.size, 0, none⟩ : Addr).add j) = some u) := fun j u hu => by have := range_block (heap_alloc_new wr (.cells #[.int .i64 i, .int .i64 p, .int .i64 0, .int .i64 0] 101)) j u hu; rw [Addr.add_mid]; exact this
      have HBD : Hid (ns.length + 1 ≤ maxLen ∧ (ns.length + 1) * 32 ≤ 140737488355328 ∧ B ≤ (wr.alloc (.cells #[.int .i64 i, .int .i64 p, .int .i64 0, .int .i64 0] 101)).heap.size) := by
        have := HP.out.2.2
        refine ⟨?_, by omega, Nat.le_trans HP.out.2.1 FA.size⟩
        simp only [maxLen]; omega
      have HFA : Hid (Fr [] wr (wr.alloc (.cells #[.int .i64 i, .int .i64 p, .int .i64 0, .int .i64 0] 101))) := FA
      clear F hno i1 i2 i3 i4 FA
      go_upto_region 8 with (refine wpList_append_fp _ rfl (.tmp 49) (.tmp 53) 46 rfl B 101 ie (.agg #[.int .i64 0, .int .i64 0, .int .i64 0, .int .i64 0]) 4 32 cu46n HIE.out.1 HIE.out.2.1 HIE.out.2.2.1 HIE.out.2.2.2 rfl (by decide) (.slice na ns.length nc) ns.length (flatN ns) rfl HO1.out ⟨wr.heap.size, 0, none⟩ 1 1 [.int .i64 i, .int .i64 p, .int .i64 0, .int .i64 0] rfl rfl HR1.out (by simp [Value.oneCell']) HBD.out.1 HBD.out.2.1 HBD.out.2.2 ?_; intro v5 w5 o5 g5 l5; obtain ⟨va, vc, rfl, _⟩ := own_slice o5; have HO5 : Hid (w5.ownsRow B 101 4 (.slice va (ns.length + 1) vc) (ns.length + 1) (flatN ns ++ [.int .i64 i, .int .i64 p, .int .i64 0, .int .i64 0]) ∧ Fr (Value.slice na ns.length nc).ownBlock.toList wr w5) := ⟨o5, (HFA.out.sub (by simp)).trans (Fr.ofGrown g5)⟩; have hcn : c ∉ (Value.slice na ns.length nc).ownBlock.toList := fun hm => own_ne HP.out.1.notes HP.out.1.blk (by decide) (by simpa using hm); have HCN : Hid (c ∉ (Value.slice na ns.length nc).ownBlock.toList) := hcn; have k5 : w5.cell? ⟨c, 1, none⟩ = some (.slice na ns.length nc) := HO5.out.2.cell1 (by exact L1.out wr (Fr.refl _ _)) hcn; have z5 : w5.frozen? ⟨c, 1, none⟩ = false := HO5.out.2.frzNew HP.out.1.blk hcn; clear o5 g5 l5 hcn k1 z1)
      have hb5 := (HO5.out.2.block _ (Array.getElem?_eq_some_iff.1 HP.out.1.blk).1 HCN.out).trans HP.out.1.blk
      have f6 : Fr [c] w5 (w5.setCell ⟨c, 1, none⟩ (.slice va (ns.length + 1) vc)) := (Fr.refl _ _).setCell (.inl (by simp)) _
      have hb6 := set_blk (i := 1) (v := .slice va (ns.length + 1) vc) hb5
      have hnb : ∀ k, k ∈ (Value.slice na ns.length nc).ownBlock.toList → ∃ cur, wr.heap[k]? = some (.cells cur 101 (0, 0)) ∧ B ≤ k := fun k hk => by
        have hk' : (Value.slice na ns.length nc).ownBlock = some k := by simpa using hk
        rcases HP.out.1.notes.2 with ⟨e1, _⟩ | ⟨g, cap, cur, e1, hbg, hg, _⟩
        · rw [e1] at hk'; cases hk'
        · rw [e1] at hk'
          cases hk'
          exact ⟨cur, hg, hbg⟩
      have hA5 : Away wr B (Value.slice na ns.length nc).ownBlock.toList := fun k hk => by
        obtain ⟨cur, h1, h2⟩ := hnb k hk
        exact ⟨h2, fun c t h => by rw [h1] at h; cases h; rfl⟩
      have hA6 : Away w5 B [c] := away_cells hb5 rfl HP.out.1.cB
      have hrow : w5.ownsRow B 52 18 rv rs.length (flatR rs) := own_fr HP.out.1.rows HO5.out.2 (fun k hk hm => by
        obtain ⟨cur, h1, h2⟩ := hnb k hm
        exact own_ne HP.out.1.rows h1 (by decide) hk)
      have hl1 : (ns ++ [(⟨i, p, 0, 0⟩ : Nt)]).length = ns.length + 1 := by simp
      have hRP : RP (w5.setCell ⟨c, 1, none⟩ (.slice va (ns.length + 1) vc)) B c rv (.slice va (ns ++ [(⟨i, p, 0, 0⟩ : Nt)]).length vc) lim pa pcap pf used last top rs (ns ++ [⟨i, p, 0, 0⟩]) := by
        rw [hl1]
        refine ⟨hb6, own_fr hrow f6 (fun k hk hm => ?_), ?_, (HP.out.1.pick.fr HO5.out.2 hA5).fr f6 hA6, fun r hr => ((HP.out.1.trs r hr).fr HO5.out.2 hA5).fr f6 hA6, HP.out.1.cB⟩
        · have : k = c := by simpa using hm
          subst this
          exact own_ne hrow hb5 (by decide) hk
        · rw [hl1]
          have h3 : flatN (ns ++ [(⟨i, p, 0, 0⟩ : Nt)]) = flatN ns ++ [.int .i64 i, .int .i64 p, .int .i64 0, .int .i64 0] := by unfold flatN; rw [List.flatMap_append]; simp [Nt.cl]
          rw [h3]
          exact own_fr HO5.out.1 f6 (fun k hk hm => by
            have : k = c := by simpa using hm
            subst this
            exact own_ne HO5.out.1 hb5 (by decide) hk)
      have hgm : Gm B pR false wr (w5.setCell ⟨c, 1, none⟩ (.slice va (ns.length + 1) vc)) := (Gm.ofFr HO5.out.2 (fun k hk => by
        obtain ⟨cur, h1, h2⟩ := hnb k hk
        exact .inr ⟨h2, .inl ⟨_, _, _, h1, rfl⟩⟩)).trans (Gm.ofFr f6 (fun k hm => by
        have : k = c := by simpa using hm
        subst this
        exact .inr ⟨HP.out.1.cB, .inl ⟨_, _, _, hb5, rfl⟩⟩))
      obtain ⟨g, rfl⟩ : ∃ g, va = some ⟨g, 0, none⟩ := by
        obtain ⟨g, c', e1, _⟩ := own_cells HO5.out.1 (j := ns.length * 4) (List.getElem?_eq_getElem (by rw [List.length_append, flatN_len]; simp))
        cases e1; exact ⟨g, rfl⟩
      have HRP : Hid (NoteQ B c rv lim pa pcap pf used last top rs ns i p wr (w5.setCell ⟨c, 1, none⟩ (.slice (some ⟨g, 0, none⟩) (ns.length + 1) vc)) g ns.length) := by
        have hu := fun u => updN_no (u := u) HU.out
        refine ⟨_, vc, ⟨i, p, 0, 0⟩, hRP, by simp, by rw [(hu id).2]; rfl, fun u => (hu u).1, hgm⟩
      have LC : Hid (∀ w', Fr [] (w5.setCell ⟨c, 1, none⟩ (.slice (some ⟨g, 0, none⟩) (ns.length + 1) vc)) w' → w'.cell? ⟨c, 1, none⟩ = some (.slice (some ⟨g, 0, none⟩) (ns.length + 1) vc)) := fun w' f => f.cellNew hb6 (by simp) rfl
      obtain ⟨M, hM⟩ : ∃ M, ns.length + 1 = M := ⟨_, rfl⟩
      have hML : (M : Int) - 1 = (ns.length : Int) := by omega
      have hM1 : (M : Int) ≤ 1048577 := by omega
      have hM2 : (ns.length : Int) < (M : Int) := by omega
      have HGB : Hid (Gm B pR false wr (w5.setCell ⟨c, 1, none⟩ (.slice (some ⟨g, 0, none⟩) (ns.length + 1) vc))) := hgm
      clear hb5 f6 hb6 hnb hA5 hA6 hrow hl1 hRP hgm HO5 HCN k5 z5 HO1 HR1 HBD HFA HIE HU hNI HNN
      rw [hM] at HRP LC HGB ⊢
      clear hM
      generalize w5.setCell ⟨c, 1, none⟩ (.slice (some ⟨g, 0, none⟩) M vc) = w6 at *
      obtain ⟨L0, hL0⟩ : ∃ L0, ns.length = L0 := ⟨_, rfl⟩
      have HL0 : Hid (ns.length = L0) := hL0
      rw [hL0] at hML hM2 HRP
      have hML2 : IntKind.i64.wrap (L0 : Int) = (L0 : Int) := by rw [IntWalk.i64_left, IntWalk.wrap64_in _ (by omega)]
      clear hL0 L1
      refine reg_in (fun w' => Fr [] w6 w') ?_
      have hS : Fr [] w6 w6.drew := (Fr.refl _ _).drew
      generalize w6.drew = Y at *
      refine tk 0 (some 57) (.pointer (some ⟨c, 0, none⟩)) rfl rfl (Or.inl ⟨rfl, fun wq hSq => by first | rfl | go_simp⟩) (by decide +kernel) hS ?_
      simp only [Act.put, List.setIfInBounds_toArray, List.set_cons_zero, List.set_cons_succ]
      refine tk 1 (some 58) (.pointer (some ⟨c, 0, none⟩)) rfl rfl (Or.inl ⟨rfl, fun wq hSq => by first | rfl | go_simp⟩) (by decide +kernel) hS ?_
      simp only [Act.put, List.setIfInBounds_toArray, List.set_cons_zero, List.set_cons_succ]
      refine tk 2 (some 59) (.pointer (some ⟨c, 1, none⟩)) rfl rfl (Or.inl ⟨rfl, fun wq hSq => by first | rfl | go_simp⟩) (by decide +kernel) hS ?_
      simp only [Act.put, List.setIfInBounds_toArray, List.set_cons_zero, List.set_cons_succ]
      refine tk 3 (some 60) (.slice (some ⟨g, 0, none⟩) M vc) rfl rfl (Or.inl ⟨rfl, fun wq hSq => by have q := LC.out wq hSq; go_simp⟩) (by decide +kernel) hS ?_
      simp only [Act.put, List.setIfInBounds_toArray, List.set_cons_zero, List.set_cons_succ]
      refine tk 4 (some 61) (.pointer (some ⟨c, 0, none⟩)) rfl rfl (Or.inl ⟨rfl, fun wq hSq => by first | rfl | go_simp⟩) (by decide +kernel) hS ?_
      simp only [Act.put, List.setIfInBounds_toArray, List.set_cons_zero, List.set_cons_succ]
      refine tk 5 (some 62) (.pointer (some ⟨c, 0, none⟩)) rfl rfl (Or.inl ⟨rfl, fun wq hSq => by first | rfl | go_simp⟩) (by decide +kernel) hS ?_
      simp only [Act.put, List.setIfInBounds_toArray, List.set_cons_zero, List.set_cons_succ]
      refine tk 6 (some 63) (.pointer (some ⟨c, 1, none⟩)) rfl rfl (Or.inl ⟨rfl, fun wq hSq => by first | rfl | go_simp⟩) (by decide +kernel) hS ?_
      simp only [Act.put, List.setIfInBounds_toArray, List.set_cons_zero, List.set_cons_succ]
      refine tk 7 (some 64) (.slice (some ⟨g, 0, none⟩) M vc) rfl rfl (Or.inl ⟨rfl, fun wq hSq => by have q := LC.out wq hSq; go_simp⟩) (by decide +kernel) hS ?_
      simp only [Act.put, List.setIfInBounds_toArray, List.set_cons_zero, List.set_cons_succ]
      refine tk 8 (some 65) (.int .i64 (M : Int)) rfl rfl (Or.inl ⟨rfl, fun wq hSq => by go_simp⟩) (by decide +kernel) hS ?_
      simp only [Act.put, List.setIfInBounds_toArray, List.set_cons_zero, List.set_cons_succ]
      refine tk 9 (some 66) (.int .i64 (L0 : Int)) rfl rfl (Or.inl ⟨rfl, fun wq hSq => by go_simp⟩) (by decide +kernel) hS ?_
      simp only [Act.put, List.setIfInBounds_toArray, List.set_cons_zero, List.set_cons_succ]
      refine tk 10 (some 67) (.pointer (some ⟨g, L0 * 4, none⟩)) rfl rfl (Or.inl ⟨rfl, fun wq hSq => by go_simp⟩) (by decide +kernel) hS ?_
      simp only [Act.put, List.setIfInBounds_toArray, List.set_cons_zero, List.set_cons_succ]
      refine tk 11 (some 6) (.pointer (some ⟨g, L0 * 4, none⟩)) rfl rfl (Or.inl ⟨rfl, fun wq hSq => by first | rfl | go_simp⟩) (by decide +kernel) hS ?_
      simp only [Act.put, List.setIfInBounds_toArray, List.set_cons_zero, List.set_cons_succ]
      refine wpAnyH_done (by decide +kernel) ?_ _
      refine plain_end ?_
      have HF : Hid (NoteQ B c rv lim pa pcap pf used last top rs ns i p wr Y g L0) := by
        obtain ⟨ns', cap, x, h1, h2, h3, h4, h5⟩ := HRP.out
        exact ⟨ns', cap, x, h1.fr0 hS, h2, h3, h4, h5.trans (Gm.ofFr0 hS)⟩
      clear hS HRP LC HGB
      go_wp2
      go_ret
      exact ⟨g, L0, rfl, HF.out⟩
end Go.Proofs.Ytnhjplfdfbbihaa
