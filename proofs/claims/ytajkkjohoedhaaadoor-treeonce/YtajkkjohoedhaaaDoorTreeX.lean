/-
  All nodes of a tree, each ahead of its kids, by the document; condition: kids stand ahead.
-/
import Derived.Test.YtajkkjohoedhaaaDoorTreeW
namespace Go.Proofs.YtajkkjohoedhaaaDoor
open Go.RowKit Go.Shelf
set_option linter.unusedVariables false

/-- Two rows of numbers of one's own. -/
structure Two (w : World) (base : Nat) (v1 v2 : Value) (T : List (Nat × Nat)) : Prop where
  o1 : w.ownsRow base 3 1 v1 T.length (T.map (fun t => Value.int .i64 (t.1 : Nat)))
  o2 : w.ownsRow base 3 1 v2 T.length (T.map (fun t => Value.int .i64 (t.2 : Nat)))
  ne : ∀ k, v1.ownBlock = some k → v2.ownBlock ≠ some k
def twoB (v1 v2 : Value) : List Nat := v1.ownBlock.toList ++ v2.ownBlock.toList
theorem two_mem {v1 v2 : Value} {k : Nat} : k ∈ twoB v1 v2 ↔ v1.ownBlock = some k ∨ v2.ownBlock = some k := by simp [twoB]
theorem Two.fr {w w' : World} {base : Nat} {v1 v2 : Value} {T : List (Nat × Nat)} {S : List Nat} (h : Two w base v1 v2 T) (f : Fr S w w') (hS : ∀ k ∈ S, k ∉ twoB v1 v2) : Two w' base v1 v2 T :=
  ⟨own_fr h.o1 f (fun k hk hm => hS k hm (two_mem.2 (.inl hk))), own_fr h.o2 f (fun k hk hm => hS k hm (two_mem.2 (.inr hk))), h.ne⟩

def rwOut (w : World) (base : Nat) (v1 v2 : Value) (T : List (Nat × Nat)) (e : Ending) (w' : World) : Prop :=
  ∃ v1' v2', e = .returned (.tuple #[v1', v2']) ∧ Two w' base v1' v2' T ∧ Fr (twoB v1 v2) w w' ∧ ∀ k ∈ twoB v1' v2', k ∈ twoB v1 v2 ∨ w.heap.size ≤ k

theorem flat_take_le {α β : Type} (f : α → List β) (l : List α) (q : Nat) : ((l.take q).flatMap f).length ≤ (l.flatMap f).length := by
  conv => rhs; rw [← List.take_append_drop q l, List.flatMap_append, List.length_append]
  omega

set_option maxRecDepth 100000 in
set_option maxHeartbeats 4000000 in
theorem refwalk (B base : Nat) (L : List Nd) (hA : Ahead L) (a : Option Addr) (len cap : Nat) (hlen : L.length = len) (hBb : B ≤ base) : ∀ (n d : Nat) (w : World) (v1 v2 : Value) (T : List (Nat × Nat)), n < len → NAt B w a L → base ≤ w.heap.size → Two w base v1 v2 T → T.length + (wk L n d).length ≤ 50000 → n + d ≤ 50000 →
    Calls Tryd.prog 27 #[.slice a len cap, .int .i64 (n : Nat), .int .i64 (d : Nat), v1, v2] w (rwOut w base v1 v2 (T ++ wk L n d)) := by
  obtain ⟨i3, hi, hz, hz1, hby⟩ := info_parts info3
  intro n
  induction n using Nat.strongRecOn with
  | ind n ih =>
    intro d w v1 v2 T hn hN hbase hT hbd hnd
    have HL : Hid (L.length = len) := hlen
    have HBB : Hid (B ≤ base) := hBb
    clear hlen hBb
    have hx : L[n]? = some (L[n]'(by rw [HL.out]; exact hn)) := List.getElem?_eq_getElem _
    generalize L[n]'(by rw [HL.out]; exact hn) = x at hx
    have hwk := wk_eq hA n d
    have hkN : Hid (kN L n = x.ks.map Int.toNat) := by unfold Hid kN; rw [hx]
    have HIN : Hid (∀ k ∈ x.ks, 0 ≤ k ∧ k < n) := hA n x hx
    have HWK : Hid (wk L n d = (n, d) :: (kN L n).flatMap (fun k => wk L k (d + 1))) := hwk
    rw [HWK.out] at hbd ⊢
    have HBD : Hid (T.length + ((kN L n).flatMap (fun k => wk L k (d + 1))).length + 1 ≤ 50000) := by simp only [List.length_cons] at hbd; unfold Hid; omega
    have HND : Hid (n + d ≤ 50000) := hnd
    have HBS : Hid (base ≤ w.heap.size) := hbase
    have hdI : (d : Int) ≤ 50000 := by omega
    have hTl : (T.length : Int) ≤ 49999 := by have := HBD.out; omega
    clear hbd hnd hwk HWK hbase
    obtain ⟨b, o, rfl, hb, hNC⟩ := hN n x hx
    obtain ⟨a1, c1, rfl, _⟩ := own_slice hT.o1
    obtain ⟨a2, c2, rfl, _⟩ := own_slice hT.o2
    go_enter Tryd.func27, Tryd.ntmps27
    have hnew : ∀ (X : World) (z : Int), ∀ j u, [Value.int .i64 z][j]? = some u → (X.alloc (.cells #[.int .i64 z] 3)).cell? ((⟨X.heap.size, 0, none⟩ : Addr).add j) = some u := by
      intro X z j u hu
      have hadd : (⟨X.heap.size, 0, none⟩ : Addr).add j = ⟨X.heap.size, j, none⟩ := by unfold Addr.add; split <;> simp_all
      rw [hadd]
      exact at_cells (heap_alloc_new X _) j (by simpa using hu)
    have f0 : Fr [] w (w.alloc (.cells #[.int .i64 (n : Nat)] 3)) := (Fr.refl _ _).alloc _
    go_wp2_with (at_builtin; refine wpList_append_own_at _ rfl _ _ 31 rfl base 3 i3 (.int .i64 0) 1 8 Tryd.underlying31 hi hz hz1 hby rfl (by decide) (.slice a1 T.length c1) T.length (T.map (fun t => Value.int .i64 (t.1 : Nat))) rfl (own_fr hT.o1 f0 (by simp)) ⟨w.heap.size, 0, none⟩ 1 1 [.int .i64 (n : Nat)] rfl rfl (hnew w _) (by simp [Value.oneCell']) (by unfold maxLen; omega) (by omega) (by have := HBS.out; simp; omega) ?_)
    intro u1 w1 hown1 hgrow1 hnil1 hloc1
    have f1 : Fr (Value.slice a1 T.length c1).ownBlock.toList w w1 := (f0.sub (by simp)).trans ((Fr.ofGrown hgrow1).sub (fun k hk => .inl hk))
    have o2 := own_fr hT.o2 f1 (fun k hk hm => by simp at hm; exact hT.ne k hm hk)
    have f1' : Fr [] w1 (w1.alloc (.cells #[.int .i64 (d : Nat)] 3)) := (Fr.refl _ _).alloc _
    have HW1 : Hid (w.heap.size ≤ w1.heap.size) := f1.size
    have hu1 : Hid (∀ k, u1.ownBlock = some k → (Value.slice a1 T.length c1).ownBlock = some k ∨ w.heap.size ≤ k) := fun k hk => by
      rcases hloc1 with h | h
      · exact .inl (h ▸ hk)
      · rw [h] at hk; simp at hk; exact .inr (by omega)
    obtain ⟨ua, uc, rfl, _⟩ := own_slice hown1
    go_wp2_with (at_builtin; refine wpList_append_own_at _ rfl _ _ 31 rfl base 3 i3 (.int .i64 0) 1 8 Tryd.underlying31 hi hz hz1 hby rfl (by decide) (.slice a2 T.length c2) T.length (T.map (fun t => Value.int .i64 (t.2 : Nat))) rfl (own_fr o2 f1' (by simp)) ⟨w1.heap.size, 0, none⟩ 1 1 [.int .i64 (d : Nat)] rfl rfl (hnew w1 _) (by simp [Value.oneCell']) (by unfold maxLen; omega) (by omega) (by have := HBS.out; have := HW1.out; simp; omega) ?_)
    intro u2 w2 hown2 hgrow2 hnil2 hloc2
    have f2 : Fr (Value.slice a2 T.length c2).ownBlock.toList w1 w2 := (f1'.sub (by simp)).trans ((Fr.ofGrown hgrow2).sub (fun k hk => .inl hk))
    have F2 : Fr (twoB (.slice a1 T.length c1) (.slice a2 T.length c2)) w w2 := (f1.sub (fun k hk => .inl (two_mem.2 (.inl (by simpa using hk))))).trans (f2.sub (fun k hk => .inl (two_mem.2 (.inr (by simpa using hk)))))
    have hu2 : Hid (∀ k, u2.ownBlock = some k → (Value.slice a2 T.length c2).ownBlock = some k ∨ w1.heap.size < k) := fun k hk => by
      rcases hloc2 with h | h
      · exact .inl (h ▸ hk)
      · rw [h] at hk; simp at hk; exact .inr (by omega)
    obtain ⟨ub, ud, rfl, _⟩ := own_slice hown2
    have hne : ∀ k, (Value.slice ua (T.length + 1) uc).ownBlock = some k → (Value.slice a2 T.length c2).ownBlock ≠ some k := fun k hk he => by
      rcases hu1.out k hk with h | h
      · exact hT.ne k h he
      · have := (hT.o2.lt k he).2; omega
    have T2 : Two w2 base (.slice ua (T.length + 1) uc) (.slice ub (T.length + 1) ud) (T ++ [(n, d)]) := by
      refine ⟨by simpa using own_fr hown1 f2 (fun k hk hm => hne k hk (by simpa using hm)), by simpa using hown2, fun k hk he => ?_⟩
      rcases hu2.out k he with h | h
      · exact hne k hk h
      · have := (hown1.lt k hk).2; omega
    have hbl : Hid (∀ k ∈ twoB (.slice ua (T.length + 1) uc) (.slice ub (T.length + 1) ud), k ∈ twoB (.slice a1 T.length c1) (.slice a2 T.length c2) ∨ w.heap.size ≤ k) := fun k hk => by
      rcases two_mem.1 hk with h | h
      · rcases hu1.out k h with h | h
        · exact .inl (two_mem.2 (.inl h))
        · exact .inr h
      · rcases hu2.out k h with h | h
        · exact .inl (two_mem.2 (.inr h))
        · exact .inr (by have := HW1.out; omega)
    have HLO : Hid (∀ k ∈ twoB (.slice a1 T.length c1) (.slice a2 T.length c2), base ≤ k) := fun k hk => by
      rcases two_mem.1 hk with h | h
      · exact (hT.o1.lt k h).1
      · exact (hT.o2.lt k h).1
    have hNC2 := hNC.fr F2 hb (fun k hk => by have := HLO.out k hk; have := HBB.out; omega)
    have m2 : w2.cell? ⟨b, o + n * 4 + 2, none⟩ = some (.slice x.a x.ks.length x.c) := hNC2.c2
    have hkl : x.ks.length ≤ maxLen := hNC2.kl
    have hkk : KAt B w2 x.a x.ks := hNC2.k
    unfold maxLen at hkl
    have hkN' := hkN.out
    clear hown1 hown2 hgrow1 hgrow2 hnil1 hnil2 hloc1 hloc2 o2 f0 f1 f1' f2 hne hnew hNC hNC2
    obtain ⟨kind, text, xa, xc, ks, pl⟩ := x
    simp only at m2 hkl hkk HIN hkN'
    have HKN : Hid (kN L n = ks.map Int.toNat) := hkN'
    clear hkN hkN'
    generalize hv3 : Value.slice ua (T.length + 1) uc = s30 at *
    generalize hv4 : Value.slice ub (T.length + 1) ud = s40 at *
    generalize hp3 : Value.slice a1 T.length c1 = v1 at *
    generalize hp4 : Value.slice a2 T.length c2 = v2 at *
    clear hv3 hv4 hu1 hu2
    go_wp2
    go_loopw [3, 4, 28] (fun s3 s4 j wq => ∃ q : Nat, q ≤ ks.length ∧ j = .int .i64 q ∧ Two wq base s3 s4 (T ++ [(n, d)] ++ ((kN L n).take q).flatMap (fun k => wk L k (d + 1))) ∧ Fr (twoB v1 v2) w wq ∧ (∀ k ∈ twoB s3 s4, k ∈ twoB v1 v2 ∨ w.heap.size ≤ k)) (fun _ _ j _ => ks.length - (intOf j).toNat)
    case atStart => exact ⟨0, Nat.zero_le _, rfl, by simpa using T2, F2, hbl.out⟩
    case round =>
      obtain ⟨q, hq, rfl, hTq, fq, hbq⟩ := hrel
      clear T2 F2 hbl m2
      have HFQ : Hid (∀ k ∈ twoB v1 v2, B ≤ k) := fun k hk => by have := HLO.out k hk; have := HBB.out; omega
      have HKQ : Hid (∀ k ∈ twoB u3 u4, k ∈ twoB v1 v2 ∨ w.heap.size ≤ k) := hbq
      clear hbq
      by_cases hql : q < ks.length
      · have hk : ks[q]? = some ks[q] := List.getElem?_eq_getElem hql
        generalize ks[q] = k at hk
        have hkb := HIN.out k (List.mem_of_getElem? hk)
        obtain ⟨r, rfl⟩ := Int.eq_ofNat_of_zero_le hkb.1
        have hrn : r < n := by omega
        have HTK : Hid ((kN L n).take (q + 1) = (kN L n).take q ++ [r]) := by
          unfold Hid
          rw [List.take_add_one, HKN.out, List.getElem?_map, hk]
          simp
        obtain ⟨kb, ko, hxa, hkb', hcell⟩ := (hN.fr fq HFQ.out n _ hx).elim (fun b' h => h.elim (fun o' h => h.2.2.k)) q _ hk
        subst hxa
        have C := ih r hrn (d + 1) wr u3 u4 (T ++ [(n, d)] ++ ((kN L n).take q).flatMap (fun k => wk L k (d + 1))) (by omega) (hN.fr fq HFQ.out) (Nat.le_trans HBS.out fq.size) hTq (by
          have h1 := flat_take_le (fun k => wk L k (d + 1)) (kN L n) (q + 1)
          rw [HTK.out, List.flatMap_append, List.length_append] at h1
          have h2 := HBD.out
          simp only [List.length_append, List.length_cons, List.length_nil, List.flatMap_cons, List.flatMap_nil, List.append_nil] at h1 ⊢
          omega) (by have := HND.out; omega)
        rw [show (((d + 1 : Nat) : Nat) : Int) = (d : Int) + 1 from by omega] at C
        clear hk hkb
        obtain ⟨s3a, s3c, hs3, _⟩ := own_slice hTq.o1
        obtain ⟨s4a, s4c, hs4, _⟩ := own_slice hTq.o2
        clear hs3 hs4
        go_wp2_with fail
        refine C.mono ?_
        rintro e w5 ⟨v5, v6, rfl, hT5, f5, hb5⟩
        have HS5 : Hid (w.heap.size ≤ wr.heap.size) := fq.size
        have fq5 : Fr (twoB v1 v2) w w5 := ((fq.sub (T := twoB v1 v2 ++ twoB u3 u4) (fun k hk => .inl (by simp [hk]))).trans (f5.sub (fun k hk => .inl (by simp [hk])))).sub (fun k hk => by
          simp only [List.mem_append] at hk
          rcases hk with h | h
          · exact .inl h
          · exact HKQ.out k h)
        clear C f5
        go_wp2
        go_roundw
        case rel =>
          refine ⟨q + 1, hql, by go_num, ?_, fq5, fun k hk => ?_⟩
          · rw [HTK.out, List.flatMap_append]
            simpa using hT5
          · rcases hb5 k hk with h | h
            · exact HKQ.out k h
            · exact .inr (by have := HS5.out; omega)
        case measure => simp [intOf]; omega
      · have hqe : q = ks.length := by omega
        subst hqe
        go_wp2
        go_ret2
        subst hp3 hp4
        refine ⟨_, _, rfl, ?_, fq, HKQ.out⟩
        rw [List.take_of_length_le (by rw [HKN.out]; simp)] at hTq
        simpa using hTq

theorem Two.nil (w : World) (base : Nat) : Two w base (.slice none 0 0) (.slice none 0 0) [] := ⟨World.ownsRow_nil _ _ _ _, World.ownsRow_nil _ _ _ _, fun k h => by simp [Value.ownBlock] at h⟩

set_option maxRecDepth 100000 in
set_option maxHeartbeats 2000000 in
theorem rwalk_any (B : Nat) (L : List Nd) (w : World) (a : Option Addr) (len cap : Nat) (hlen : L.length = len) (hL : NAt B w a L) (hm : len ≤ 2600000000000) (hB : B ≤ w.heap.size) :
    Calls Tryd.prog 15 #[.slice a len cap] w fun e w' => ∃ v1 v2, e = .returned (.tuple #[v1, v2]) ∧ Two w' w.heap.size v1 v2 (treeW L) ∧ Fr [] w w' := by
  have HL : Hid (L.length = len) := hlen
  have HB : Hid (B ≤ w.heap.size) := hB
  have C := rcheck_any B L w a len cap hlen hL hm hB
  have HT : Hid (treeW L = if (checkL L).2 = 0 then wk L (len - 1) 0 else []) := by unfold Hid treeW; rw [HL.out]
  have HO := fun {p} => tree_once (L := L) (p := p)
  clear hB hlen
  unfold cOut at C
  generalize hR : checkL L = R at C
  obtain ⟨p0, er⟩ := R
  by_cases h0 : er = 0
  · subst h0
    obtain ⟨hA, hpos, h5, _, hwl⟩ := HO hR
    have HT2 : Hid (treeW L = wk L (len - 1) 0) := by unfold Hid; rw [HT.out, hR]; rfl
    rw [HL.out] at hpos h5 hwl
    have hp1 : (len : Int) - 1 = ((len - 1 : Nat) : Int) := by omega
    have W1 := fun w1 (f : Fr [] w w1) => refwalk B w.heap.size L hA a len cap HL.out HB.out (len - 1) 0 w1 (.slice none 0 0) (.slice none 0 0) [] (by omega) (hL.fr f (by simp)) f.size (Two.nil _ _) (by rw [hwl]; simp; omega) (by omega)
    clear hR HT HO
    go_enter Tryd.func15, Tryd.ntmps15
    go_wp2_with fail
    refine C.mono ?_
    rintro e w1 ⟨rfl, f1⟩
    have W2 := W1 w1 f1
    clear W1
    go_wp2_with fail
    refine W2.mono ?_
    rintro e w2 ⟨v1, v2, rfl, hT, f2, _⟩
    clear C W2
    go_wp2
    go_ret2
    refine ⟨_, _, rfl, ?_, f1.trans (f2.sub (by simp [twoB, Value.ownBlock]))⟩
    rw [HT2.out]
    simpa using hT
  · have HT2 : Hid (treeW L = []) := by unfold Hid; rw [HT.out, hR, if_neg h0]
    have h0' : ((er : Int) != 0) = true := by simp; omega
    clear hR
    go_enter Tryd.func15, Tryd.ntmps15
    go_wp2_with fail
    refine C.mono ?_
    rintro e w1 ⟨rfl, f1⟩
    go_wp2
    go_ret2
    refine ⟨_, _, rfl, ?_, f1⟩
    rw [HT2.out]
    exact Two.nil _ _
end Go.Proofs.YtajkkjohoedhaaaDoor
