/-
  Where the document says that a place leads; condition: the cache lies as told.
-/
import Derived.Test.YtnhjplfdfbbihaaCcE
namespace Go.Proofs.Ytnhjplfdfbbihaa
open Go.RowKit Go.Shelf Go.Maps Go.ChangeShapes
set_option linter.unusedVariables false
set_option linter.unusedSimpArgs false
theorem nfnd_apart {L : List Nt} (h : L.Pairwise (fun a b => ¬ (a.id = b.id ∧ a.op = b.op))) {q : Nat} {x : Nt} (hx : L[q]? = some x) : nfnd L x.id x.op = some x := by
  refine (updN_at (u := id) hx ⟨rfl, rfl⟩ (fun j y hj hy hm => ?_)).2
  obtain ⟨h1, h2⟩ := List.getElem?_eq_some_iff.1 hx
  obtain ⟨h3, h4⟩ := List.getElem?_eq_some_iff.1 hy
  have := List.pairwise_iff_getElem.1 h j q h3 h1 hj
  rw [h2, h4] at this
  exact this hm
def ntc (x : Nt) : Array Value := x.cl.toArray
theorem ntc_size (x : Nt) : (ntc x).size = 4 := rfl
theorem ntc_one (x : Nt) : (ntc x).all (·.oneCell') = true := by simp [ntc, Nt.cl, Value.oneCell']
theorem wpList_ldN {ops : Array Oper} {rest : List Oper} {o : Oper} {a : Act} {w : World} {Q : Exit → Act → World → Prop} (hgd : o.guard = none) (x : Operand) (ho : o.op = .load 101 x)
    (b off : Nat) (hx : a.eval x = .pointer (some ⟨b, off, none⟩)) (y : Nt) (hc : w.rangeAt b off y.cl)
    (h : wpList Try.prog ops Q rest (a.put o.dst (.agg (ntc y))) w) : wpList Try.prog ops Q (o :: rest) a w :=
  wpList_load_mid hgd 101 x ho b off hx y.cl _ hc Try.underlying101 rfl (by rw [info101]; rfl) h
set_option maxRecDepth 100000 in
set_option maxHeartbeats 4000000 in
theorem linked_r {w : World} {B c n : Nat} {rs : List Rt} {S : Bk} (h : RA w B c rs S) (ho : Ok S n) (hn : n ≤ 1048576) (i p : Int) :
    Calls Try.prog 27 #[.pointer (some ⟨c, 0, none⟩), .int .i64 i, .int .i64 p] w fun e w' => e = .returned (.tuple #[.int .i64 ((linksF S.notes i p).getD 0), .bool (linksF S.notes i p).isSome]) ∧ Fr [] w w' := by
  obtain ⟨rv, nv, pa, pcap, pf, used, hp, _⟩ := h.ex
  obtain ⟨na, nc, rfl, _⟩ := own_slice hp.notes
  have k1 : w.cell? ⟨c, 1, none⟩ = some (.slice na S.notes.length nc) := at_cells hp.blk 1 rfl
  obtain ⟨ns, hns⟩ : ∃ ns, ns = S.notes := ⟨_, rfl⟩
  have hap := ho.apart
  have hlen : S.notes.length ≤ 1048576 := by have := ho.nn; omega
  have hO := hp.notes
  rw [← hns] at hap hlen k1 hO ⊢
  have HO : Hid (w.ownsRow B 101 4 (.slice na ns.length nc) ns.length (flatN ns) ∧ ns.Pairwise (fun a b => ¬ (a.id = b.id ∧ a.op = b.op))) := ⟨hO, hap⟩
  have hlI : (ns.length : Int) ≤ 1048576 := by omega
  have F0 : Hid (Fr [] w w) := Fr.refl _ _
  clear h hp hap hlen hO hns ho hn
  go_enter Try.func27, Try.ntmps27
  go_wp2
  go_loopw [15] (fun i' wr => ∃ q : Nat, q ≤ ns.length ∧ i' = .int .i64 q ∧ Hid (Fr [] w wr ∧ ∀ j y, j < q → ns[j]? = some y → ¬ (y.id = i ∧ y.op = p ∧ y.to ≠ 0))) (fun i _ => ns.length - (intOf i).toNat)
  case atStart => exact ⟨0, Nat.zero_le _, rfl, F0.out, fun j y hj => by omega⟩
  case round =>
    obtain ⟨q, hq, rfl, F⟩ := hrel
    clear F0
    by_cases hlt : q < ns.length
    · have hltI : (q : Int) < ns.length := by omega
      obtain ⟨x, hx⟩ : ∃ x, ns[q]? = some x := ⟨_, List.getElem?_eq_getElem hlt⟩
      obtain ⟨g, rfl⟩ : ∃ g, na = some ⟨g, 0, none⟩ := by
        obtain ⟨g, c', e1, _⟩ := own_cells HO.out.1 (j := q * 4) (List.getElem?_eq_getElem (by rw [flatN_len]; omega))
        cases e1; exact ⟨g, rfl⟩
      have R1 : Hid (wr.rangeAt g (q * 4) x.cl) := rowN_at (own_fr HO.out.1 F.out.1 (by simp)) hx
      have bA := heap_alloc_new wr (.cells #[.int .i64 0, .int .i64 0, .int .i64 0, .int .i64 0] 101)
      have FB : Fr [] wr ((wr.alloc (.cells #[.int .i64 0, .int .i64 0, .int .i64 0, .int .i64 0] 101)).setRow wr.heap.size (ntc x)) := ((Fr.refl _ _).alloc _).setRow (.inr (Nat.le_refl _)) _
      have bB := setRow_heap (wr.alloc (.cells #[.int .i64 0, .int .i64 0, .int .i64 0, .int .i64 0] 101)) wr.heap.size _ (ntc x) _ _ bA
      have HA : Hid ((wr.alloc (.cells #[.int .i64 0, .int .i64 0, .int .i64 0, .int .i64 0] 101)).heap[wr.heap.size]? = some (.cells #[.int .i64 0, .int .i64 0, .int .i64 0, .int .i64 0] 101 (0, 0))) := bA
      have c0 : ((wr.alloc (.cells #[.int .i64 0, .int .i64 0, .int .i64 0, .int .i64 0] 101)).setRow wr.heap.size (ntc x)).cell? ⟨wr.heap.size, 0, none⟩ = some (.int .i64 x.id) := at_cells bB 0 rfl
      have c1 : ((wr.alloc (.cells #[.int .i64 0, .int .i64 0, .int .i64 0, .int .i64 0] 101)).setRow wr.heap.size (ntc x)).cell? ⟨wr.heap.size, 1, none⟩ = some (.int .i64 x.op) := at_cells bB 1 rfl
      have c3 : ((wr.alloc (.cells #[.int .i64 0, .int .i64 0, .int .i64 0, .int .i64 0] 101)).setRow wr.heap.size (ntc x)).cell? ⟨wr.heap.size, 3, none⟩ = some (.int .i64 x.to) := at_cells bB 3 rfl
      have HF : Hid (Fr [] w ((wr.alloc (.cells #[.int .i64 0, .int .i64 0, .int .i64 0, .int .i64 0] 101)).setRow wr.heap.size (ntc x))) := F.out.1.trans FB
      have HR : Hid (ns[q]? = some x ∧ ∀ j y, j < q → ns[j]? = some y → ¬ (y.id = i ∧ y.op = p ∧ y.to ≠ 0)) := ⟨hx, F.out.2⟩
      clear bA bB FB hx F
      go_upto_region 4 with (first
        | refine wpList_ldN rfl (.tmp 17) rfl g (q * 4) rfl x R1.out ?_
        | refine wpList_store_row rfl 101 (.tmp 9) (.tmp 18) rfl wr.heap.size (ntc x) rfl rfl 101 _ HA.out (by rw [info101]; rfl) rfl (ntc_one x) ?_)
      clear R1 HA
      generalize (wr.alloc (.cells #[.int .i64 0, .int .i64 0, .int .i64 0, .int .i64 0] 101)).setRow wr.heap.size (ntc x) = X at *
      generalize wr.heap.size = bx at *
      by_cases hm : x.id = i ∧ x.op = p ∧ x.to ≠ 0
      · have HL : Hid (linksF ns i p = some x.to) := by
          show linksF ns i p = some x.to
          unfold linksF
          rw [← hm.1, ← hm.2.1, nfnd_apart HO.out.2 HR.out.1]
          simp [numO, hm.2.2]
        obtain ⟨h1, h2, h3⟩ := hm
        rw [h1] at c0
        rw [h2] at c1
        have h4 : (x.to == 0) = false := beq_int_false h3
        clear HR h1 h2 h3
        generalize x.to = xt at *
        go_wp2
        exact bodyPost_ret (results_tmp2 rfl _ _ _) rfl ⟨by rw [HL.out]; rfl, HF.out⟩
      · have HN : Hid (Fr [] w X ∧ ∀ j y, j < q + 1 → ns[j]? = some y → ¬ (y.id = i ∧ y.op = p ∧ y.to ≠ 0)) := ⟨HF.out, fun j y hj hy => by
          rcases Nat.lt_or_ge j q with h | h
          · exact HR.out.2 j y h hy
          · obtain rfl : j = q := by omega
            rw [HR.out.1] at hy
            cases hy
            exact hm⟩
        generalize x.id = xi at *
        generalize x.op = xo at *
        generalize x.to = xt at *
        clear HR HF
        by_cases h1 : xi = i
        · by_cases h2 : xo = p
          · have h3 : xt = 0 := by
              rcases Decidable.em (xt = 0) with h | h
              · exact h
              · exact absurd ⟨h1, h2, h⟩ hm
            rw [h1] at c0
            rw [h2] at c1
            rw [h3] at c3
            clear hm h1 h2 h3
            go_wp2
            go_roundw
            case rel => exact ⟨q + 1, hlt, by go_num, HN⟩
            case measure => simp [intOf]; omega
          · have hbq : (xo == p) = false := beq_int_false h2
            rw [h1] at c0
            clear hm h1 h2
            go_wp2
            go_roundw
            case rel => exact ⟨q + 1, hlt, by go_num, HN⟩
            case measure => simp [intOf]; omega
        · have hbq : (xi == i) = false := beq_int_false h1
          clear hm h1
          go_wp2
          go_roundw
          case rel => exact ⟨q + 1, hlt, by go_num, HN⟩
          case measure => simp [intOf]; omega
    · obtain rfl : q = ns.length := by omega
      have HL : Hid (linksF ns i p = none ∧ Fr [] w wr) := by
        refine ⟨?_, F.out.1⟩
        unfold linksF
        cases e : nfnd ns i p with
        | none => rfl
        | some x =>
          obtain ⟨j, hj⟩ := List.getElem?_of_mem (List.mem_of_find?_eq_some e)
          have h1 : x.id = i ∧ x.op = p := by simpa using List.find?_some e
          have := F.out.2 j x (List.getElem?_eq_some_iff.1 hj).1 hj
          have h0 : x.to = 0 := by
            rcases Decidable.em (x.to = 0) with h | h
            · exact h
            · exact absurd ⟨h1.1, h1.2, h⟩ this
          simp [numO, h0]
      clear F
      go_wp2
      exact bodyPost_ret (results_tmp2 rfl _ _ _) rfl ⟨by rw [HL.out.1]; rfl, HL.out.2⟩
end Go.Proofs.Ytnhjplfdfbbihaa
