/-
  Of a tree each node is told just once: the walk of the statement; condition: the table lies as the program's text lays it.
-/
import Derived.Test.YtajkkjohoedhaaaDoorWalksW
namespace Go.Proofs.YtajkkjohoedhaaaDoor
open Go.RowKit Go.Shelf
attribute [local go_sem] Oper.semAt_some store_func
set_option linter.unusedVariables false

/-- How often each node was told. -/
def cnts (len : Nat) (d : List (Nat × Nat)) : List Int := (List.range len).map (fun i => (((d.map Prod.fst).count i : Nat) : Int))
theorem cnts_len (len : Nat) (d : List (Nat × Nat)) : (cnts len d).length = len := by simp [cnts]
theorem cnts_get {len : Nat} {d : List (Nat × Nat)} {i : Nat} (h : i < len) : (cnts len d)[i]? = some (((d.map Prod.fst).count i : Nat) : Int) := by simp [cnts, h]
theorem cnts_nil (len : Nat) : cnts len [] = List.replicate len 0 := by
  apply List.ext_getElem?
  intro i
  simp only [cnts, List.map_nil, List.count_nil, List.getElem?_map, List.getElem?_replicate]
  by_cases h : i < len
  · simp [h]
  · simp [h]
theorem cnts_snoc {len : Nat} (d : List (Nat × Nat)) (t : Nat × Nat) : cnts len (d ++ [t]) = (cnts len d).set t.1 ((((d.map Prod.fst).count t.1 : Nat) : Int) + 1) := by
  apply List.ext_getElem?
  intro i
  by_cases h : i < len
  · rw [cnts_get h]
    by_cases e : t.1 = i
    · subst e
      rw [List.getElem?_set_self (by rw [cnts_len]; exact h)]
      simp
    · rw [List.getElem?_set_ne e, cnts_get h]
      simp [e]
  · rw [List.getElem?_eq_none (by rw [cnts_len]; omega), List.getElem?_eq_none (by rw [List.length_set, cnts_len]; omega)]

set_option maxRecDepth 100000 in
set_option maxHeartbeats 4000000 in
theorem treeOnce_walk (L : List Nd) (w : World) (a : Option Addr) (len cap : Nat) (hlen : L.length = len) (hL : NAt w.heap.size w a L) (hm : len ≤ 2600000000000) (TT : Tabs w) :
    Calls Tryd.prog 7 #[.slice a len cap] w fun e w' => e = .returned (.bool true) ∧ Fr [] w w' := by
  have HL : Hid (L.length = len) := hlen
  have HTL : Hid ((treeW L).length ≤ 50000) := tree_len L
  have f0 : Fr [] w ((w.alloc (.cells #[.slice a len cap] 22)).alloc (.cells #[.bool false] 4)) := ((Fr.refl _ _).alloc _).alloc _
  have b0 := blk2 w (.cells #[.slice a len cap] 22) (.cells #[.bool false] 4)
  have a0 : ((w.alloc (.cells #[.slice a len cap] 22)).alloc (.cells #[.bool false] 4)).heap[w.heap.size]? = some (.cells #[.slice a len cap] 22 (0, 0)) := by
    rw [Below.heap_alloc _ _ _ (by simp)]
    exact heap_alloc_new w _
  refine callsIn_wide.1 (callsIn_of_wp_marks (n := 0) Tryd.func7 rfl trivial ?_ rfl)
  simp only [Tryd.ntmps7, List.size_toArray, List.length_cons, List.length_nil, Nat.reduceAdd, Nat.reduceSub, Array.replicate_succ, Array.replicate_zero, List.push_toArray, List.append_toArray, List.nil_append, List.cons_append]
  gi_wp2
  generalize (w.alloc (.cells #[.slice a len cap] 22)).alloc (.cells #[.bool false] 4) = w0 at *
  refine ⟨trivial, rfl, (callsIn_wide.2 (awake_any w0 (TT.fr f0 (by simp)))).mono ?_⟩
  rintro e w1 ⟨rfl, f1⟩
  have F1 := f0.trans f1
  have b1 := (f1.block _ (Array.getElem?_eq_some_iff.1 b0).1 (by simp)).trans b0
  have a1 := (f1.block _ (Array.getElem?_eq_some_iff.1 a0).1 (by simp)).trans a0
  have l1 := at_cells a1 0 rfl
  clear hlen f0 f1 b0 a0
  gi_wp2
  refine ⟨trivial, rfl, (callsIn_wide.2 (few_any w.heap.size L w1 a len cap HL.out (hL.fr F1 (by simp)) hm F1.size)).mono ?_⟩
  rintro e w2 ⟨⟨v, rfl⟩, f2⟩
  have F2 := F1.trans f2
  have b2 := (f2.block _ (Array.getElem?_eq_some_iff.1 b1).1 (by simp)).trans b1
  have a2 := (f2.block _ (Array.getElem?_eq_some_iff.1 a1).1 (by simp)).trans a1
  have l2 := at_cells a2 0 rfl
  clear F1 f2 b1 l1 a1
  have quit : ∀ X, Fr [] w X → X.heap[w.heap.size + 1]? = some (.cells #[.bool false] 4 (0, 0)) → Fr [] w (X.setCell ⟨w.heap.size + 1, 0, none⟩ (.bool true)) := fun X f _ => ((f.sub (T := [w.heap.size + 1]) (by simp)).trans ((Fr.refl _ _).setCell (p := ⟨w.heap.size + 1, 0, none⟩) (.inl (by simp)) _)).sub (fun k hk => .inr (by simp at hk; omega))
  have QUIT : Hid _ := quit
  clear quit
  cases v with
  | false =>
    have c2 := at_cells b2 0 rfl
    have z2 : w2.frozen? ⟨w.heap.size + 1, 0, none⟩ = false := by simp [World.frozen?, b2]
    gi_wp2
    have b3 := set_same (v := .bool true) b2
    have c3 := at_cells b3 0 rfl
    refine ⟨.bool true, ?_, rfl, QUIT.out _ F2 b2⟩
    simp [results, Tryd.results7, go_sem, c3]
  | true =>
    have C := rcheck_any w.heap.size L w2 a len cap HL.out (hL.fr F2 (by simp)) hm F2.size
    have HT : Hid (treeW L = if (checkL L).2 = 0 then wk L (len - 1) 0 else []) := by unfold Hid treeW; rw [HL.out]
    have HO := fun {p} => tree_once (L := L) (p := p)
    unfold cOut at C
    generalize hR : checkL L = R at C
    obtain ⟨p0, er⟩ := R
    gi_wp2
    refine ⟨trivial, rfl, (callsIn_wide.2 C).mono ?_⟩
    rintro e w3 ⟨rfl, f3⟩
    have F3 := F2.trans f3
    have b3 := (f3.block _ (Array.getElem?_eq_some_iff.1 b2).1 (by simp)).trans b2
    have a3 := (f3.block _ (Array.getElem?_eq_some_iff.1 a2).1 (by simp)).trans a2
    have l3 := at_cells a3 0 rfl
    clear F2 f3 b2 l2 a2 C
    by_cases h0 : er = 0
    · subst h0
      obtain ⟨hA, hpos, h5, hone, hwl⟩ := HO hR
      have HT2 : Hid (treeW L = wk L (len - 1) 0) := by unfold Hid; rw [HT.out, hR]; rfl
      rw [HL.out] at hpos h5 hone
      have HONE : Hid (∀ m, m < len → ((treeW L).map Prod.fst).count m = 1) := by
        unfold Hid
        rw [HT2.out, ← HL.out]
        rw [HL.out]
        have e : wn L (len - 1) 0 = (wk L (len - 1) 0).map Prod.fst := rfl
        rw [← e, ← HL.out]
        rw [HL.out]
        exact hone
      have HLT : Hid (∀ t ∈ treeW L, (t : Nat × Nat).1 < len) := by
        unfold Hid
        intro t ht
        rw [HT2.out] at ht
        have := wk_sum hA (len - 1) 0 t ht
        omega
      have C := walk_any w.heap.size L w3 a len cap HL.out (hL.fr F3 (by simp)) hm F3.size (TT.fr F3 (by simp))
      unfold walkOut at C
      have h5' : (len : Int) ≤ 50000 := by omega
      clear hR HT HO hone hwl hA HT2
      generalize treeW L = T at *
      gi_wp2
      refine ⟨trivial, rfl, (callsIn_wide.2 C).mono ?_⟩
      rintro e w5 ⟨bo, sv, rfl, hbo, ob, oo, f5⟩
      have F5 := F3.trans f5
      have b5 := (f5.block _ (Array.getElem?_eq_some_iff.1 b3).1 (by simp)).trans b3
      have a5 := (f5.block _ (Array.getElem?_eq_some_iff.1 a3).1 (by simp)).trans a3
      have l5 := at_cells a5 0 rfl
      have fnil := func_nil bo w5
      have hmk := make_ints w5 len (by omega)
      have I0 : IB (w5.alloc (.cells ((List.replicate len (0 : Int)).map (Value.int .i64)).toArray 3)) w5.heap.size (List.replicate len 0) := heap_alloc_new w5 _
      have f6 : Fr [] w5 (w5.alloc (.cells ((List.replicate len (0 : Int)).map (Value.int .i64)).toArray 3)) := (Fr.refl _ _).alloc _
      generalize w5.alloc (.cells ((List.replicate len (0 : Int)).map (Value.int .i64)).toArray 3) = w6 at *
      clear C f5 F3 b3 a3 l3
      have HB5 : Hid (w.heap.size + 1 < w5.heap.size ∧ bo < w5.heap.size) := ⟨(Array.getElem?_eq_some_iff.1 b5).1, (Array.getElem?_eq_some_iff.1 ob).1⟩
      have HO5 : Hid (∀ k, sv.ownBlock = some k → k < w5.heap.size) := fun k hk => (oo.lt k hk).2
      gi_wp2
      clear fnil hmk
      have f7 : Fr [] w6 (w6.alloc (.cells #[.slice (some ⟨w5.heap.size, 0, none⟩) len len] 31)) := (Fr.refl _ _).alloc _
      have s7 : (w6.alloc (.cells #[.slice (some ⟨w5.heap.size, 0, none⟩) len len] 31)).heap[w6.heap.size]? = some (.cells #[.slice (some ⟨w5.heap.size, 0, none⟩) len len] 31 (0, 0)) := heap_alloc_new w6 _
      have HS7 : Hid ((w6.alloc (.cells #[.slice (some ⟨w5.heap.size, 0, none⟩) len len] 31)).heap.size = w6.heap.size + 1) := by unfold Hid; simp
      generalize w6.alloc (.cells #[.slice (some ⟨w5.heap.size, 0, none⟩) len len] 31) = w7 at *
      refine range_brk (gf := 29) (lb := #[.pointer (some ⟨bo, 0, none⟩)]) rfl (enters_of Tryd.func29 (by kernel_rfl) rfl) ?_
      intro rec hYr
      show CallsIn Fence.wide 0 Tryd.prog 29 #[.func (.yield (w7.heap.size + 1)) #[] #[], .pointer (some ⟨bo, 0, none⟩)] _ _
      have f8 : Fr [] w7 ((w7.alloc (.deferred (some []))).alloc (.loop (rec .ready none))) := ((Fr.refl _ _).alloc _).alloc _
      have hL9 := blk2 w7 (.deferred (some [])) (.loop (rec .ready none))
      have hD9 : ((w7.alloc (.deferred (some []))).alloc (.loop (rec .ready none))).heap[w7.heap.size]? = some (.deferred (some [])) := (Below.heap_alloc _ _ _ (by simp)).trans (heap_alloc_new w7 _)
      generalize (w7.alloc (.deferred (some []))).alloc (.loop (rec .ready none)) = w9 at *
      have F59 := (f6.trans f7).trans f8
      have s9 := (f8.block _ (Array.getElem?_eq_some_iff.1 s7).1 (by simp)).trans s7
      have I9 := (I0.fr f7 (by simp)).fr f8 (by simp)
      have kp : ∀ {k : Nat} {o : Obj}, w5.heap[k]? = some o → w9.heap[k]? = some o := fun h => (F59.block _ (Array.getElem?_eq_some_iff.1 h).1 (by simp)).trans h
      have HZ : Hid (w5.heap.size < w6.heap.size ∧ w6.heap.size < w7.heap.size) := ⟨I0.lt, (Array.getElem?_eq_some_iff.1 s7).1⟩
      have ob9 := kp ob
      have oo9 := own_fr oo F59 (by simp)
      have b9 := kp b5
      have a9 := kp a5
      have F9 := F5.trans F59
      clear kp F5 F59 f6 f7 f8 s7 I0 ob oo b5 a5 l5 HS7
      generalize w5.heap.size = gs at *
      generalize w6.heap.size = bs at *
      generalize w7.heap.size = D at *
      rw [← cnts_nil len] at I9
      refine (told1 (fun _ => true) (fun d X => Fr [gs, D + 1] w9 X ∧ IB X gs (cnts len d) ∧ X.heap[D + 1]? = some (.loop (rec .ready none))) (fun b d X => b = true ∧ Fr [gs, D + 1] w9 X ∧ IB X gs (cnts len d) ∧ X.heap[D + 1]? = some (.loop (rec .ready none))) (D + 1) bo w3.heap.size sv T HTL.out ?_ ?_ ?_ ?_ w9 ⟨Fr.refl _ _, I9, hL9⟩).mono ?_
      · rintro d X ⟨f, h1, h2⟩
        have := HB5.out
        have := HZ.out
        exact ⟨(f.block _ (Array.getElem?_eq_some_iff.1 ob9).1 (by simp; omega)).trans ob9, own_fr oo9 f (fun k hk => by have := HO5.out k hk; simp; omega)⟩
      · rintro d X o ⟨f, h1, h2⟩
        have kk : ∀ {k : Nat} {x : Obj}, X.heap[k]? = some x → (X.alloc o).heap[k]? = some x := fun h => (Below.heap_alloc _ _ _ (Array.getElem?_eq_some_iff.1 h).1).trans h
        exact ⟨f.alloc _, kk h1, kk h2⟩
      · rintro d X h
        exact ⟨rfl, h⟩
      · rintro d ⟨tn, td⟩ X ⟨f, h1, h2⟩ ⟨r, hr⟩
        have htn : tn < len := HLT.out (tn, td) (by rw [hr]; simp)
        have HDC : Hid ((d.map Prod.fst).count tn ≤ 50000) := by
          have e1 := List.count_le_length (a := tn) (l := d.map Prod.fst)
          have e2 := HTL.out
          rw [hr] at e2
          simp at e1 e2
          unfold Hid
          omega
        have HSN : Hid (cnts len (d ++ [(tn, td)]) = (cnts len d).set tn ((((d.map Prod.fst).count tn : Nat) : Int) + 1)) := cnts_snoc d (tn, td)
        have hI : (tn : Int) < len := by omega
        refine hYr _ X _ rfl h2 ?_
        clear hYr hr
        have hZ := HZ.out
        have hB := HB5.out
        have f1 := Fr.putObj (W := X) (l := D + 1) (.loop (rec .busy none))
        have F1 : Fr [gs, D + 1] w9 (X.putObj (D + 1) (.loop (rec .busy none))) := f.trans (f1.sub (fun k hk => .inl (by simp at hk; simp [hk])))
        have y1 := h1.fr f1 (by simp; omega)
        have y3 := World.putObj_heap_same (w := X) (r := D + 1) (o := .loop (rec .busy none)) (Array.getElem?_eq_some_iff.1 h2).1
        have y4 := (F1.block _ (Array.getElem?_eq_some_iff.1 s9).1 (by simp; omega)).trans s9
        have y5 := (F1.block _ (Array.getElem?_eq_some_iff.1 a9).1 (by simp; omega)).trans a9
        have l1 := at_cells y4 0 (u := .slice (some ⟨gs, 0, none⟩) len len) rfl
        have l2 := at_cells y5 0 (u := .slice a len cap) rfl
        have l3 := y1.cell (cnts_get (d := d) htn)
        have l4 := y1.fz tn
        have y6 := y1.set tn ((((d.map Prod.fst).count tn : Nat) : Int) + 1)
        rw [← HSN.out] at y6
        clear hZ hB
        have hcI : (((d.map Prod.fst).count tn : Nat) : Int) ≤ 50000 := by have := HDC.out; omega
        generalize (d.map Prod.fst).count tn = q at *
        gi_wp2
        refine ⟨h2, ?_⟩
        gi_wp2
        have hZ := HZ.out
        have F2 := F1.trans ((Fr.setCell (S := [gs, D + 1]) (Fr.refl _ (X.putObj (D + 1) (.loop (rec .busy none)))) (p := ⟨gs, tn, none⟩) (.inl (by simp)) (.int .i64 ((q : Int) + 1))))
        have x3 : ((X.putObj (D + 1) (.loop (rec .busy none))).setCell ⟨gs, tn, none⟩ (.int .i64 ((q : Int) + 1))).heap[D + 1]? = some (.loop (rec .busy none)) := (Below.heap_setCell _ _ _ _ (by simp; omega)).trans y3
        exact ⟨x3, rfl, F2.trans ((Fr.putObj _).sub (fun k hk => .inl (by simp at hk; simp [hk]))), y6.fr (Fr.putObj _) (by simp; omega), World.putObj_heap_same (Array.getElem?_eq_some_iff.1 x3).1⟩
      · rintro e W5 ⟨hv, hb⟩
        rw [walkB_all0] at hb
        obtain ⟨_, f, h1, h2⟩ := hb
        simp only at h1 h2
        refine ⟨hv, .inl ⟨h2, ?_⟩⟩
        have hZ := HZ.out
        have hB := HB5.out
        have F1 : Fr [gs, D + 1] w9 (W5.putObj (D + 1) (.loop (rec .exhausted none))) := f.trans ((Fr.putObj _).sub (fun k hk => .inl (by simp at hk; simp [hk])))
        have y1 := h1.fr (Fr.putObj (W := W5) (l := D + 1) (.loop (rec .exhausted none))) (by simp; omega)
        have y3 := (F1.block _ (Array.getElem?_eq_some_iff.1 b9).1 (by simp; omega)).trans b9
        have y4 := (F1.block _ (Array.getElem?_eq_some_iff.1 s9).1 (by simp; omega)).trans s9
        have y6 := (F1.block _ (Array.getElem?_eq_some_iff.1 hD9).1 (by simp; omega)).trans hD9
        have HF : Fr [] w (W5.putObj (D + 1) (.loop (rec .exhausted none))) := ((F9.sub (T := [gs, D + 1]) (by simp)).trans F1).sub (fun k hk => .inr (by simp at hk; omega))
        clear hYr f h1 h2 F1 hZ hB
        generalize W5.putObj (D + 1) (.loop (rec .exhausted none)) = W6 at *
        have l1 := at_cells y4 0 (u := .slice (some ⟨gs, 0, none⟩) len len) rfl
        have l3 := at_cells y3 0 (u := .bool false) rfl
        have z3 : W6.frozen? ⟨w.heap.size + 1, 0, none⟩ = false := by simp [World.frozen?, y3]
        gi_wp2
        gi_loopw [48] (fun i wr => ∃ p : Nat, p ≤ len ∧ i = .int .i64 p ∧ wr = W6) (fun i _ => len - (intOf i).toNat)
        case atStart => exact ⟨0, Nat.zero_le _, rfl, rfl⟩
        case round =>
          obtain ⟨p, hp, rfl, hwr⟩ := hrel
          subst hwr
          by_cases hlt : p < len
          · have l7 : wr.cell? ⟨gs, p, none⟩ = some (.int .i64 1) := by
              have := y1.cell (cnts_get (d := T) hlt)
              rw [HONE.out p hlt] at this
              exact this
            gi_wp2
            go_roundw
            case rel => exact ⟨p + 1, hlt, by go_num, trivial⟩
            case measure => simp [intOf]; omega
          · gi_wp2
            refine leave_marks2 (v := .bool true) [D] _ (by simp) (fun r hr => ?_) (fun X' hF => ⟨?_, rfl, ?_⟩)
            · have := HB5.out
              have := HZ.out
              simp at hr
              subst hr
              exact set_other (by omega) y6
            · have := HB5.out
              have := HZ.out
              have c3 := at_cells ((hF.block _ (by have := (Array.getElem?_eq_some_iff.1 y3).1; simp; exact this) (by simp; omega)).trans (set_same (v := .bool true) y3)) 0 rfl
              simp [results, Tryd.results7, go_sem, c3]
            · have := HB5.out
              have := HZ.out
              exact (((QUIT.out _ HF y3).sub (T := [D]) (by simp)).trans hF).sub (fun k hk => .inr (by simp at hk; omega))
    · have h0' : ((er : Int) != 0) = true := by simp; omega
      have c3 := at_cells b3 0 rfl
      have z3 : w3.frozen? ⟨w.heap.size + 1, 0, none⟩ = false := by simp [World.frozen?, b3]
      gi_wp2
      have b4 := set_same (v := .bool true) b3
      have c4 := at_cells b4 0 rfl
      refine ⟨.bool true, ?_, rfl, QUIT.out _ F3 b3⟩
      simp [results, Tryd.results7, go_sem, c4]
end Go.Proofs.YtajkkjohoedhaaaDoor
