/-
  Nodes are told from the last one on, as the document says: the walk of the statement; condition: the table lies as the program's text lays it.
-/
import Derived.Test.YtajkkjohoedhaaaDoorTreeV
import Derived.Test.YtajkkjohoedhaaaDoorTreeX
namespace Go.Proofs.YtajkkjohoedhaaaDoor
open Go.RowKit Go.Shelf
attribute [local go_sem] Oper.semAt_some store_func
set_option linter.unusedVariables false

theorem leave_marks2 {fn : Func} {tmps : Array Value} {v : Value} {R : Ending → World → Prop} : ∀ (rs : List Nat) (X : World), rs.Nodup → (∀ r ∈ rs, X.heap[r]? = some (.deferred (some []))) → (∀ X', Fr rs X X' → (results fn tmps).run Tryd.prog X' = .ok v X' ∧ R (.returned v) X') → LeavesInM Fence.wide 0 Tryd.prog fn tmps R (rs.map mkD) .returning X
  | [], X, _, _, h => ⟨_, (h X (Fr.refl _ _)).1, (h X (Fr.refl _ _)).2⟩
  | r :: rs, X, hn, hd, h => by
    have h1 := hd r (by simp)
    rw [List.nodup_cons] at hn
    refine ⟨by simp, .inl ⟨_, _, rfl, run_takeDeferred h1, ?_⟩⟩
    refine leave_marks2 rs _ hn.2 (fun q hq => ?_) (fun X' hF => h X' (((Fr.putObj (.deferred none)).sub (fun k hk => .inl (by simp at hk; simp [hk]))).trans (hF.sub (fun k hk => .inl (by simp [hk])))))
    have hqr : q ≠ r := fun e => hn.1 (by rw [← e]; exact hq)
    exact (World.putObj_heap_other hqr).trans (hd q (by simp [hq]))

theorem func_nil (bx : Nat) (W : World) : (binOp .eql 35 (.func (.func 29) #[] #[.pointer (some ⟨bx, 0, none⟩)]) .nilFunc).run Tryd.prog W = .ok (.bool false) W := by kernel_rfl
theorem walkB_none (T : List (Nat × Nat)) : walkB (fun _ => false) [] T = match T with | [] => (true, []) | t :: _ => (false, [t]) := by
  cases T <;> rfl
theorem walkB_all : ∀ (d T : List (Nat × Nat)), walkB (fun _ => true) d T = (true, d ++ T)
  | d, [] => by simp [walkB]
  | d, t :: r => by rw [walkB, if_pos rfl, walkB_all (d ++ [t]) r]; simp
theorem walkB_all0 (T : List (Nat × Nat)) : walkB (fun _ => true) [] T = (true, T) := by simpa using walkB_all [] T
theorem tree_len (L : List Nd) : (treeW L).length ≤ 50000 := by
  unfold treeW
  split
  · rename_i h
    obtain ⟨_, _, h1, _, h2⟩ := tree_once (L := L) (p := (checkL L).1) (by rw [← h])
    omega
  · simp

set_option maxRecDepth 100000 in
set_option maxHeartbeats 4000000 in
theorem treeWalks_walk (L : List Nd) (w : World) (a : Option Addr) (len cap : Nat) (hlen : L.length = len) (hL : NAt w.heap.size w a L) (hm : len ≤ 2600000000000) (TT : Tabs w) :
    Calls Tryd.prog 5 #[.slice a len cap] w fun e w' => e = .returned (.bool true) ∧ Fr [] w w' := by
  have HL : Hid (L.length = len) := hlen
  have HTL : Hid ((treeW L).length ≤ 50000) := tree_len L
  have f0 : Fr [] w (w.alloc (.cells #[.bool false] 4)) := (Fr.refl _ _).alloc _
  have b0 : (w.alloc (.cells #[.bool false] 4)).heap[w.heap.size]? = some (.cells #[.bool false] 4 (0, 0)) := heap_alloc_new w _
  refine callsIn_wide.1 (callsIn_of_wp_marks (n := 0) Tryd.func5 rfl trivial ?_ rfl)
  simp only [Tryd.ntmps5, List.size_toArray, List.length_cons, List.length_nil, Nat.reduceAdd, Nat.reduceSub, Array.replicate_succ, Array.replicate_zero, List.push_toArray, List.append_toArray, List.nil_append, List.cons_append]
  gi_wp2
  generalize w.alloc (.cells #[.bool false] 4) = w0 at *
  refine ⟨trivial, rfl, (callsIn_wide.2 (awake_any w0 (TT.fr f0 (by simp)))).mono ?_⟩
  rintro e w1 ⟨rfl, f1⟩
  have F1 := f0.trans f1
  have b1 := (f1.block _ (Array.getElem?_eq_some_iff.1 b0).1 (by simp)).trans b0
  clear hlen f0 f1 b0
  gi_wp2
  refine ⟨trivial, rfl, (callsIn_wide.2 (few_any w.heap.size L w1 a len cap HL.out (hL.fr F1 (by simp)) hm F1.size)).mono ?_⟩
  rintro e w2 ⟨⟨v, rfl⟩, f2⟩
  have F2 := F1.trans f2
  have b2 := (f2.block _ (Array.getElem?_eq_some_iff.1 b1).1 (by simp)).trans b1
  clear F1 f2 b1
  cases v with
  | false =>
    have c2 := at_cells b2 0 rfl
    have z2 : w2.frozen? ⟨w.heap.size, 0, none⟩ = false := by simp [World.frozen?, b2]
    gi_wp2
    have b3 := set_same (v := .bool true) b2
    have c3 := at_cells b3 0 rfl
    refine ⟨.bool true, ?_, rfl, ((F2.sub (T := [w.heap.size]) (by simp)).trans ((Fr.refl _ _).setCell (p := ⟨w.heap.size, 0, none⟩) (.inl (by simp)) _)).sub (fun k hk => .inr (by simp at hk; omega))⟩
    simp [results, Tryd.results5, go_sem, c3]
  | true =>
    gi_wp2
    refine ⟨trivial, rfl, (callsIn_wide.2 (rwalk_any w.heap.size L w2 a len cap HL.out (hL.fr F2 (by simp)) hm F2.size)).mono ?_⟩
    rintro e w3 ⟨v1, v2, rfl, hT, f3⟩
    have F3 := F2.trans f3
    have b3 := (f3.block _ (Array.getElem?_eq_some_iff.1 b2).1 (by simp)).trans b2
    obtain ⟨a1, c1, rfl, _⟩ := own_slice hT.o1
    obtain ⟨a2, c2, rfl, _⟩ := own_slice hT.o2
    have C := fun w4 (f : Fr [] w w4) => walk_any w.heap.size L w4 a len cap HL.out (hL.fr f (by simp)) hm f.size (TT.fr f (by simp))
    unfold walkOut at C
    generalize treeW L = T at *
    gi_wp2
    have f4 : Fr [] w3 ((w3.alloc (.cells #[.slice a1 T.length c1] 31)).alloc (.cells #[.slice a2 T.length c2] 31)) := ((Fr.refl _ _).alloc _).alloc _
    have q2 := blk2 w3 (.cells #[.slice a1 T.length c1] 31) (.cells #[.slice a2 T.length c2] 31)
    have q1 : ((w3.alloc (.cells #[.slice a1 T.length c1] 31)).alloc (.cells #[.slice a2 T.length c2] 31)).heap[w3.heap.size]? = some (.cells #[.slice a1 T.length c1] 31 (0, 0)) := by
      rw [Below.heap_alloc _ _ _ (by simp)]
      exact heap_alloc_new w3 _
    generalize (w3.alloc (.cells #[.slice a1 T.length c1] 31)).alloc (.cells #[.slice a2 T.length c2] 31) = w4 at *
    refine ⟨trivial, rfl, (callsIn_wide.2 (C w4 (F3.trans f4))).mono ?_⟩
    rintro e w5 ⟨bo, sv, rfl, hbo, ob, oo, f5⟩
    have hT5 := (hT.fr f4 (by simp)).fr f5 (by simp)
    have kp : ∀ {k : Nat} {o : Obj}, w4.heap[k]? = some o → w5.heap[k]? = some o := fun h => (f5.block _ (Array.getElem?_eq_some_iff.1 h).1 (by simp)).trans h
    have q1 := kp q1
    have q2 := kp q2
    have b5 := kp ((f4.block _ (Array.getElem?_eq_some_iff.1 b3).1 (by simp)).trans b3)
    have F5 := (F3.trans f4).trans f5
    have HN : Hid (w.heap.size < w3.heap.size ∧ w3.heap.size + 1 < w5.heap.size ∧ bo < w5.heap.size ∧ w3.heap.size + 1 < bo) := ⟨(Array.getElem?_eq_some_iff.1 b3).1, (Array.getElem?_eq_some_iff.1 q2).1, (Array.getElem?_eq_some_iff.1 ob).1, Nat.lt_of_lt_of_le (Array.getElem?_eq_some_iff.1 (by assumption : w4.heap[w3.heap.size + 1]? = _)).1 hbo⟩
    have HO2 : Hid (w2.heap.size ≤ w3.heap.size) := f3.size
    clear C kp f4 b2 b3 F2 F3 f3 hT f5 hbo
    have fnil := func_nil bo w5
    gi_wp2
    clear fnil
    refine range_brk (gf := 29) (lb := #[.pointer (some ⟨bo, 0, none⟩)]) rfl (enters_of Tryd.func29 (by kernel_rfl) rfl) ?_
    intro rec hYr
    show CallsIn Fence.wide 0 Tryd.prog 29 #[.func (.yield (w5.heap.size + 1)) #[] #[], .pointer (some ⟨bo, 0, none⟩)] _ _
    have f6 : Fr [] w5 ((w5.alloc (.deferred (some []))).alloc (.loop (rec .ready none))) := ((Fr.refl _ _).alloc _).alloc _
    have hL6 := blk2 w5 (.deferred (some [])) (.loop (rec .ready none))
    have hD6 : ((w5.alloc (.deferred (some []))).alloc (.loop (rec .ready none))).heap[w5.heap.size]? = some (.deferred (some [])) := (Below.heap_alloc _ _ _ (by simp)).trans (heap_alloc_new w5 _)
    generalize (w5.alloc (.deferred (some []))).alloc (.loop (rec .ready none)) = w6 at *
    have kp : ∀ {k : Nat} {o : Obj}, w5.heap[k]? = some o → w6.heap[k]? = some o := fun h => (f6.block _ (Array.getElem?_eq_some_iff.1 h).1 (by simp)).trans h
    have ob6 := kp ob
    have oo6 := own_fr oo f6 (by simp)
    refine (told1 (fun _ => false) (fun d X => d = [] ∧ Fr [] w6 X) (fun b d X => Fr [w5.heap.size + 1] w6 X ∧ X.heap[w5.heap.size + 1]? = some (.loop (if b then rec .ready none else rec .done (some (.exit 0))))) (w5.heap.size + 1) bo w4.heap.size sv T HTL.out ?_ ?_ ?_ ?_ w6 ⟨rfl, Fr.refl _ _⟩).mono ?_
    · rintro d X ⟨rfl, f⟩
      exact ⟨(f.block _ (Array.getElem?_eq_some_iff.1 ob6).1 (by simp)).trans ob6, own_fr oo6 f (by simp)⟩
    · rintro d X o ⟨rfl, f⟩
      exact ⟨rfl, f.alloc _⟩
    · rintro d X ⟨rfl, f⟩
      exact ⟨f.sub (by simp), (f.block _ (Array.getElem?_eq_some_iff.1 hL6).1 (by simp)).trans hL6⟩
    · rintro d t X ⟨rfl, f⟩ _
      have hLX := (f.block _ (Array.getElem?_eq_some_iff.1 hL6).1 (by simp)).trans hL6
      have y3 := World.putObj_heap_same (w := X) (r := w5.heap.size + 1) (o := .loop (rec .busy none)) (Array.getElem?_eq_some_iff.1 hLX).1
      have f7 := (f.sub (T := [w5.heap.size + 1]) (by simp)).trans (Fr.putObj (W := X) (l := w5.heap.size + 1) (.loop (rec .busy none)))
      refine hYr _ X _ rfl hLX ?_
      clear hYr
      gi_wp2
      exact ⟨y3, rfl, f7.trans (Fr.putObj _), World.putObj_heap_same (Array.getElem?_eq_some_iff.1 y3).1⟩
    · rintro e W3 ⟨hv, f7, hl7⟩
      refine ⟨hv, ?_⟩
      have hT7 := (hT5.fr f6 (by simp)).fr f7 (fun k hk hm => by simp at hk; subst hk; rcases two_mem.1 hm with h | h; exact absurd (hT5.o1.lt _ h).2 (by omega); exact absurd (hT5.o2.lt _ h).2 (by omega))
      have kq : ∀ {k : Nat} {o : Obj}, k ≠ w5.heap.size + 1 → w6.heap[k]? = some o → W3.heap[k]? = some o := fun hk h => (f7.block _ (Array.getElem?_eq_some_iff.1 h).1 (by simpa using hk)).trans h
      have HN' := HN.out
      have q1 := kq (by omega) (kp q1)
      have q2 := kq (by omega) (kp q2)
      have b7 := kq (by omega) (kp b5)
      have ob7 := kq (by omega) ob6
      have oo7 := own_fr oo6 f7 (fun k hk => by simp; rintro rfl; exact absurd (oo.lt _ hk).2 (by omega))
      have hD7 := kq (by omega) hD6
      have F7 : Fr [] w W3 := (((F5.trans f6).sub (T := [w5.heap.size + 1]) (by simp)).trans f7).sub (fun k hk => .inr (by simp at hk; omega))
      clear kp kq hYr hL6 hD6 ob6 oo6 f6 f7 ob oo b5 F5 hT5
      rw [walkB_none] at hl7
      have REC : ∃ r : Loop, W3.heap[w5.heap.size + 1]? = some (.loop r) := ⟨_, hl7⟩
      have nxt : ∀ o : Obj, (Two (W3.putObj (w5.heap.size + 1) o) w2.heap.size (.slice a1 T.length c1) (.slice a2 T.length c2) T) := fun o => by
        obtain ⟨r, hr⟩ := REC
        exact hT7.fr (Fr.putObj o) (fun k hk hm => by simp at hk; subst hk; rcases two_mem.1 hm with h | h; exact own_notloop hT7.o1 hr (by intro c t z e; cases e) h; exact own_notloop hT7.o2 hr (by intro c t z e; cases e) h)
      have nxo : ∀ o : Obj, (W3.putObj (w5.heap.size + 1) o).ownsRow w4.heap.size 53 2 sv T.length (flatS T) := fun o => by
        obtain ⟨r, hr⟩ := REC
        exact own_fr oo7 (Fr.putObj o) (fun k hk => by simp; rintro rfl; exact own_notloop oo7 hr (by intro c t z e; cases e) hk)
      have nxk : ∀ {k : Nat} {x o : Obj}, k ≠ w5.heap.size + 1 → W3.heap[k]? = some x → (W3.putObj (w5.heap.size + 1) o).heap[k]? = some x := fun hk h => (World.putObj_heap_other hk).trans h
      have nxf : ∀ o : Obj, Fr [] w (W3.putObj (w5.heap.size + 1) o) := fun o => ((F7.sub (T := [w5.heap.size + 1]) (by simp)).trans (Fr.putObj o)).sub (fun k hk => .inr (by simp at hk; omega))
      clear F7 REC
      have hcase : W3.heap[w5.heap.size + 1]? = some (.loop (rec .ready none)) ∨ W3.heap[w5.heap.size + 1]? = some (.loop (rec .done (some (.exit 0)))) := by
        cases T with
        | nil => exact .inl hl7
        | cons t r => exact .inr hl7
      clear hl7
      rcases hcase with hl7 | hl7
      case' inl =>
        refine .inl ⟨hl7, ?_⟩
        have A1 := nxt (.loop (rec .exhausted none))
        have A2 := nxo (.loop (rec .exhausted none))
        have p1 := nxk (o := (.loop (rec .exhausted none))) (by omega) q1
        have p2 := nxk (o := (.loop (rec .exhausted none))) (by omega) q2
        have p3 := nxk (o := (.loop (rec .exhausted none))) (by omega) b7
        have p4 := nxk (o := (.loop (rec .exhausted none))) (by omega) ob7
        have p5 := nxk (o := (.loop (rec .exhausted none))) (by omega) hD7
        have F8 := nxf (.loop (rec .exhausted none))
        clear nxt nxo nxk nxf q1 q2 b7 ob7 hD7 hl7 oo7 hT7
        generalize W3.putObj (w5.heap.size + 1) (.loop (rec .exhausted none)) = W4 at *
      case' inr =>
        refine .inr (.inr ⟨0, hl7, ?_⟩)
        have A1 := nxt (.loop (rec .exhausted (some (.exit 0))))
        have A2 := nxo (.loop (rec .exhausted (some (.exit 0))))
        have p1 := nxk (o := (.loop (rec .exhausted (some (.exit 0))))) (by omega) q1
        have p2 := nxk (o := (.loop (rec .exhausted (some (.exit 0))))) (by omega) q2
        have p3 := nxk (o := (.loop (rec .exhausted (some (.exit 0))))) (by omega) b7
        have p4 := nxk (o := (.loop (rec .exhausted (some (.exit 0))))) (by omega) ob7
        have p5 := nxk (o := (.loop (rec .exhausted (some (.exit 0))))) (by omega) hD7
        have F8 := nxf (.loop (rec .exhausted (some (.exit 0))))
        clear nxt nxo nxk nxf q1 q2 b7 ob7 hD7 hl7 oo7 hT7
        generalize W3.putObj (w5.heap.size + 1) (.loop (rec .exhausted (some (.exit 0)))) = W4 at *
      all_goals
        have HN4 : Hid (w5.heap.size < W4.heap.size) := (Array.getElem?_eq_some_iff.1 p5).1
        generalize w5.heap.size = D1 at *
        clear HN'
        gi_wp2
        have f8 : Fr [] W4 (W4.alloc (.cells #[.int .i64 0] 3)) := (Fr.refl _ _).alloc _
        have k8 : (W4.alloc (.cells #[.int .i64 0] 3)).heap[W4.heap.size]? = some (.cells #[.int .i64 0] 3 (0, 0)) := heap_alloc_new W4 _
        have HS8 : Hid ((W4.alloc (.cells #[.int .i64 0] 3)).heap.size = W4.heap.size + 1) := by unfold Hid; simp
        generalize W4.alloc (.cells #[.int .i64 0] 3) = w8 at *
        refine range_brk (gf := 29) (lb := #[.pointer (some ⟨bo, 0, none⟩)]) rfl (enters_of Tryd.func29 (by kernel_rfl) rfl) ?_
        intro rec2 hYr
        show CallsIn Fence.wide 0 Tryd.prog 29 #[.func (.yield (w8.heap.size + 1)) #[] #[], .pointer (some ⟨bo, 0, none⟩)] _ _
        have f9 : Fr [] w8 ((w8.alloc (.deferred (some []))).alloc (.loop (rec2 .ready none))) := ((Fr.refl _ _).alloc _).alloc _
        have hL9 := blk2 w8 (.deferred (some [])) (.loop (rec2 .ready none))
        have hD9 : ((w8.alloc (.deferred (some []))).alloc (.loop (rec2 .ready none))).heap[w8.heap.size]? = some (.deferred (some [])) := (Below.heap_alloc _ _ _ (by simp)).trans (heap_alloc_new w8 _)
        generalize (w8.alloc (.deferred (some []))).alloc (.loop (rec2 .ready none)) = w9 at *
        have hS8 : w8.heap.size = W4.heap.size + 1 := HS8.out
        rw [hS8] at hL9 hD9 hYr ⊢
        have HS8' : Hid (w8.heap.size = W4.heap.size + 1) := hS8
        clear hS8 HS8
        have f49 := f8.trans f9
        have k9 := (f9.block _ (Array.getElem?_eq_some_iff.1 k8).1 (by simp)).trans k8
        have kp : ∀ {k : Nat} {o : Obj}, W4.heap[k]? = some o → w9.heap[k]? = some o := fun h => (f49.block _ (Array.getElem?_eq_some_iff.1 h).1 (by simp)).trans h
        have HA1 : Hid (∀ k ∈ twoB (.slice a1 T.length c1) (.slice a2 T.length c2), k < W4.heap.size) := fun k hk => by
          rcases two_mem.1 hk with h | h
          · exact (A1.o1.lt k h).2
          · exact (A1.o2.lt k h).2
        have HA2 : Hid (∀ k, sv.ownBlock = some k → k < W4.heap.size) := fun k hk => (A2.lt k hk).2
        have HP : Hid (w3.heap.size + 1 < W4.heap.size ∧ w3.heap.size < W4.heap.size ∧ bo < W4.heap.size ∧ w.heap.size < W4.heap.size ∧ D1 < W4.heap.size ∧ w.heap.size < w3.heap.size) := ⟨(Array.getElem?_eq_some_iff.1 p2).1, (Array.getElem?_eq_some_iff.1 p1).1, (Array.getElem?_eq_some_iff.1 p4).1, (Array.getElem?_eq_some_iff.1 p3).1, HN4.out, HN.out.1⟩
        have A1 := A1.fr f49 (by simp)
        have A2 := own_fr A2 f49 (by simp)
        have p1 := kp p1
        have p2 := kp p2
        have p3 := kp p3
        have p4 := kp p4
        have p5 := kp p5
        have F9 := F8.trans f49
        clear kp F8 f8 f9 k8 f49
        refine (told1 (fun _ => true) (fun d X => Fr [W4.heap.size, W4.heap.size + 1 + 1] w9 X ∧ X.heap[W4.heap.size]? = some (.cells #[.int .i64 (d.length : Nat)] 3 (0, 0)) ∧ X.heap[W4.heap.size + 1 + 1]? = some (.loop (rec2 .ready none))) (fun b d X => b = true ∧ Fr [W4.heap.size, W4.heap.size + 1 + 1] w9 X ∧ X.heap[W4.heap.size]? = some (.cells #[.int .i64 (d.length : Nat)] 3 (0, 0)) ∧ X.heap[W4.heap.size + 1 + 1]? = some (.loop (rec2 .ready none))) (W4.heap.size + 1 + 1) bo w4.heap.size sv T HTL.out ?_ ?_ ?_ ?_ w9 ⟨Fr.refl _ _, k9, hL9⟩).mono ?_
        · rintro d X ⟨f, h1, h2⟩
          have := HP.out
          exact ⟨(f.block _ (Array.getElem?_eq_some_iff.1 p4).1 (by simp; omega)).trans p4, own_fr A2 f (fun k hk => by have := HA2.out k hk; simp; omega)⟩
        · rintro d X o ⟨f, h1, h2⟩
          have kk : ∀ {k : Nat} {x : Obj}, X.heap[k]? = some x → (X.alloc o).heap[k]? = some x := fun h => (Below.heap_alloc _ _ _ (Array.getElem?_eq_some_iff.1 h).1).trans h
          exact ⟨f.alloc _, kk h1, kk h2⟩
        · rintro d X h
          exact ⟨rfl, h⟩
        · rintro d ⟨tn, td⟩ X ⟨f, h1, h2⟩ ⟨r, hr⟩
          have hlt : d.length < T.length := by rw [hr]; simp
          have HTd : Hid (T[d.length]? = some (tn, td)) := by unfold Hid; rw [hr]; simp
          have HTL' : Hid (T.length ≤ 50000) := HTL.out
          have hdI : (d.length : Int) < T.length := by omega
          have hTI : (T.length : Int) ≤ 50000 := by have := HTL.out; omega
          clear hr
          refine hYr _ X _ rfl h2 ?_
          clear hYr
          have hP := HP.out
          have f1 := Fr.putObj (W := X) (l := W4.heap.size + 1 + 1) (.loop (rec2 .busy none))
          have F1 : Fr [W4.heap.size, W4.heap.size + 1 + 1] w9 (X.putObj (W4.heap.size + 1 + 1) (.loop (rec2 .busy none))) := f.trans (f1.sub (fun k hk => .inl (by simp at hk; simp [hk])))
          have y1 : (X.putObj (W4.heap.size + 1 + 1) (.loop (rec2 .busy none))).heap[W4.heap.size]? = _ := (World.putObj_heap_other (by omega)).trans h1
          have y3 := World.putObj_heap_same (w := X) (r := W4.heap.size + 1 + 1) (o := .loop (rec2 .busy none)) (Array.getElem?_eq_some_iff.1 h2).1
          have hnot : ∀ {k : Nat}, k < W4.heap.size → k ∉ [W4.heap.size, W4.heap.size + 1 + 1] := fun hk => by simp; omega
          have y4 := (F1.block _ (Array.getElem?_eq_some_iff.1 p1).1 (hnot (by omega))).trans p1
          have y5 := (F1.block _ (Array.getElem?_eq_some_iff.1 p2).1 (hnot (by omega))).trans p2
          have B1 := A1.fr F1 (fun k hk hm => hnot (HA1.out k hm) hk)
          gi_wp2
          clear hnot hP
          generalize X.putObj (W4.heap.size + 1 + 1) (.loop (rec2 .busy none)) = X1 at *
          obtain ⟨g1, cc1, e1, _, _, _, hc1⟩ := own_cell B1.o1 (by omega)
          obtain ⟨g2, cc2, e2, _, _, _, hc2⟩ := own_cell B1.o2 (by omega)
          injection e1 with e1 _ _
          injection e2 with e2 _ _
          subst e1 e2
          have n1 := hc1 d.length (.int .i64 (tn : Nat)) (by omega) (by rw [List.getElem?_map, HTd.out]; rfl)
          have n2 := hc2 d.length (.int .i64 (td : Nat)) (by omega) (by rw [List.getElem?_map, HTd.out]; rfl)
          have l1 := at_cells y1 0 (u := .int .i64 (d.length : Nat)) rfl
          have l2 := at_cells y4 0 (u := .slice (some ⟨g1, 0, none⟩) T.length c1) rfl
          have l3 := at_cells y5 0 (u := .slice (some ⟨g2, 0, none⟩) T.length c2) rfl
          have z1 : X1.frozen? ⟨W4.heap.size, 0, none⟩ = false := by simp [World.frozen?, y1]
          clear hc1 hc2 B1 y4 y5 A1
          gi_wp2
          have x1 := set_same (v := .int .i64 ((d.length : Int) + 1)) y1
          have x3 := set_other (j := W4.heap.size) (v := .int .i64 ((d.length : Int) + 1)) (by omega) y3
          have F2 := F1.trans ((Fr.setCell (S := [W4.heap.size, W4.heap.size + 1 + 1]) (Fr.refl _ X1) (p := ⟨W4.heap.size, 0, none⟩) (.inl (by simp)) (.int .i64 ((d.length : Int) + 1))))
          exact ⟨x3, rfl, F2.trans ((Fr.putObj _).sub (fun k hk => .inl (by simp at hk; simp [hk]))), (World.putObj_heap_other (by omega)).trans x1, World.putObj_heap_same (Array.getElem?_eq_some_iff.1 x3).1⟩
        · rintro e W5 ⟨hv, hb⟩
          rw [walkB_all0] at hb
          obtain ⟨_, f, h1, h2⟩ := hb
          simp only at h1 h2
          refine ⟨hv, .inl ⟨h2, ?_⟩⟩
          have hP := HP.out
          have F1 : Fr [W4.heap.size, W4.heap.size + 1 + 1] w9 (W5.putObj (W4.heap.size + 1 + 1) (.loop (rec2 .exhausted none))) := f.trans ((Fr.putObj _).sub (fun k hk => .inl (by simp at hk; simp [hk])))
          have y1 : (W5.putObj (W4.heap.size + 1 + 1) (.loop (rec2 .exhausted none))).heap[W4.heap.size]? = _ := (World.putObj_heap_other (by omega)).trans h1
          have hnot : ∀ {k : Nat}, k < W4.heap.size ∨ k = W4.heap.size + 1 → k ∉ [W4.heap.size, W4.heap.size + 1 + 1] := fun hk => by simp; omega
          have y3 := (F1.block _ (Array.getElem?_eq_some_iff.1 p3).1 (hnot (by omega))).trans p3
          have y4 := (F1.block _ (Array.getElem?_eq_some_iff.1 p1).1 (hnot (by omega))).trans p1
          have y5 := (F1.block _ (Array.getElem?_eq_some_iff.1 p5).1 (hnot (by omega))).trans p5
          have y6 := (F1.block _ (Array.getElem?_eq_some_iff.1 hD9).1 (hnot (by omega))).trans hD9
          have FF : Fr [] w (W5.putObj (W4.heap.size + 1 + 1) (.loop (rec2 .exhausted none))) := ((F9.sub (T := [W4.heap.size, W4.heap.size + 1 + 1]) (by simp)).trans F1).sub (fun k hk => .inr (by simp at hk; omega))
          clear hYr f h1 h2 F1 hnot
          generalize W5.putObj (W4.heap.size + 1 + 1) (.loop (rec2 .exhausted none)) = W6 at *
          have l1 := at_cells y1 0 (u := .int .i64 (T.length : Nat)) rfl
          have l2 := at_cells y4 0 (u := .slice a1 T.length c1) rfl
          have l3 := at_cells y3 0 (u := .bool false) rfl
          have z3 : W6.frozen? ⟨w.heap.size, 0, none⟩ = false := by simp [World.frozen?, y3]
          clear hP
          gi_wp2
          refine leave_marks2 (v := .bool true) [W4.heap.size + 1, D1] _ (by have := HP.out; simp; omega) (fun r hr => ?_) (fun X' hF => ⟨?_, rfl, ?_⟩)
          · have := HP.out
            have := HN.out
            simp at hr
            rcases hr with rfl | rfl
            · exact set_other (by omega) y6
            · exact set_other (by omega) y5
          · have := HP.out
            have := HN.out
            have c3 := at_cells ((hF.block _ (by have := (Array.getElem?_eq_some_iff.1 y3).1; simp; exact this) (by simp; omega)).trans (set_same (v := .bool true) y3)) 0 rfl
            simp [results, Tryd.results5, go_sem, c3]
          · have := HP.out
            have := HN.out
            exact ((FF.sub (T := [w.heap.size, W4.heap.size + 1, D1]) (by simp)).trans (((Fr.setCell (S := [w.heap.size, W4.heap.size + 1, D1]) (Fr.refl _ W6) (p := ⟨w.heap.size, 0, none⟩) (.inl (by simp)) (.bool true))).trans (hF.sub (fun k hk => .inl (by simp at hk; simp; omega))))).sub (fun k hk => .inr (by simp at hk; have := HN.out; omega))
end Go.Proofs.YtajkkjohoedhaaaDoor
