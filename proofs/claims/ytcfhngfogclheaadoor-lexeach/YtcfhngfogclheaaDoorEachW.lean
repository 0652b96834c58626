/-
  The law of tokens told one by one, walked; condition: the tables lie as the program's text lays them.
-/
import Derived.Test.YtcfhngfogclheaaDoorEachC
namespace Go.Proofs.YtcfhngfogclheaaDoor
open Go.RowKit Go.Shelf
attribute [local go_sem] Oper.semAt_some store_func

/-- What the first loop keeps. -/
structure FG (w2 : World) (rec : LoopState → Option Code → Loop) (st : Loop) (X : World) : Prop where
  old : Fr [] w2 X
  rd : X.heap[w2.heap.size + 1]? = some (.loop st)
  dfr : X.heap[w2.heap.size]? = some (.deferred (some []))
def FQ (w2 : World) (rec : LoopState → Option Code → Loop) : Res → World → Prop
  | .inr (.inr _), X => FG w2 rec (rec .done (some (.exit 0))) X
  | _, X => FG w2 rec (rec .ready none) X
theorem FG.fr {w2 X X' : World} {rec : LoopState → Option Code → Loop} {st : Loop} {S : List Nat} (h : FG w2 rec st X) (f : Fr S X X') (hS : ∀ j, j ∈ S → w2.heap.size + 2 ≤ j) : FG w2 rec st X' :=
  ⟨((h.old.sub (T := S) (by simp)).trans f).sub (fun k hk => .inr (by have := hS k hk; omega)), (f.block _ (Array.getElem?_eq_some_iff.1 h.rd).1 (fun hm => by have := hS _ hm; omega)).trans h.rd, (f.block _ (Array.getElem?_eq_some_iff.1 h.dfr).1 (fun hm => by have := hS _ hm; omega)).trans h.dfr⟩
theorem FQ.fr {w2 X X' : World} {rec : LoopState → Option Code → Loop} {r : Res} {S : List Nat} (h : FQ w2 rec r X) (f : Fr S X X') (hS : ∀ j, j ∈ S → w2.heap.size + 2 ≤ j) : FQ w2 rec r X' := by
  rcases r with d | ⟨d, p, e⟩ | d <;> exact FG.fr h f hS

/-- What the second loop keeps. -/
structure HG (W4 : World) (rec : LoopState → Option Code → Loop) (d : List Tok) (X : World) : Prop where
  old : Fr [] W4 X
  box : ∃ sv, X.heap[W4.heap.size]? = some (.cells #[sv] 23 (0, 0)) ∧ X.ownsRow (W4.heap.size + 7) 35 5 sv d.length (flatT d)
  rd : X.heap[W4.heap.size + 1 + 1]? = some (.loop (rec .ready none))
  dfr : X.heap[W4.heap.size + 1]? = some (.deferred (some []))
  len : d.length ≤ 2000
theorem HG.fr {W4 X X' : World} {rec : LoopState → Option Code → Loop} {d : List Tok} {S : List Nat} (h : HG W4 rec d X) (f : Fr S X X') (hS : ∀ j, j ∈ S → W4.heap.size + 3 ≤ j ∧ ∀ c t z, X.heap[j]? ≠ some (.cells c t z)) : HG W4 rec d X' := by
  have lo : ∀ {k o}, k < W4.heap.size + 3 → X.heap[k]? = some o → X'.heap[k]? = some o := fun hk h1 => (f.block _ (Array.getElem?_eq_some_iff.1 h1).1 (fun hm => by have := (hS _ hm).1; omega)).trans h1
  obtain ⟨sv, hb, ho⟩ := h.box
  refine ⟨((h.old.sub (T := S) (by simp)).trans f).sub (fun k hk => .inr (by have := (hS k hk).1; omega)), ⟨sv, lo (by omega) hb, own_fr ho f (fun k hk hm => ?_)⟩, lo (by omega) h.rd, lo (by omega) h.dfr, h.len⟩
  rcases ho.2 with ⟨e, _⟩ | ⟨g, cap, cur, e, _, hgg, _⟩
  · rw [e] at hk; simp [Value.ownBlock] at hk
  · rw [e] at hk
    simp [Value.ownBlock] at hk
    subst hk
    exact (hS _ hm).2 _ _ _ hgg
def HQ (W4 : World) (rec : LoopState → Option Code → Loop) : Res → World → Prop
  | .inl d, X => HG W4 rec d X
  | .inr (.inl (d, _, _)), X => HG W4 rec d X
  | .inr (.inr _), _ => False

theorem func_nil (bx : Nat) (W : World) : (binOp .eql 32 (.func (.func 28) #[] #[.pointer (some ⟨bx, 0, none⟩)]) .nilFunc).run Tryd.prog W = .ok (.bool false) W := by kernel_rfl

set_option maxRecDepth 100000 in
set_option maxHeartbeats 4000000 in
theorem each_walk (s : ByteArray) (w : World) (hs : s.size ≤ maxLen) (T : Tabs w) :
    Calls Tryd.prog 4 #[.string s] w fun e w' => e = .returned (.bool true) ∧ Fr [] w w' := by
  unfold maxLen at hs
  by_cases h : (2000 : Int) < s.size
  · go_enter Tryd.func4, Tryd.ntmps4
    go_wp2_with (go_at_call 9; refine (awake_any _ T).mono ?_; rintro e w1 ⟨rfl, F1⟩)
    go_ret
    exact ⟨rfl, F1⟩
  · obtain ⟨i5, hi, hz, hz1, hby⟩ := info_parts info35
    have hs2 : s.size ≤ 200000 := by omega
    have HS2 : Hid (s.size ≤ 2000) := by show _ ≤ _; omega
    refine callsIn_wide.1 (callsIn_of_wp_marks (n := 0) Tryd.func4 rfl trivial ?_ rfl)
    simp only [Tryd.ntmps4, List.size_toArray, List.length_cons, List.length_nil, Nat.reduceAdd, Nat.reduceSub, Array.replicate_succ, Array.replicate_zero, List.push_toArray, List.append_toArray, List.nil_append, List.cons_append]
    gi_wp2
    refine ⟨trivial, rfl, (callsIn_wide.2 (awake_any w T)).mono ?_⟩
    rintro e w1 ⟨rfl, F1⟩
    have T1 := T.fr F1 (by simp)
    gi_wp2
    refine ⟨trivial, rfl, (callsIn_wide.2 (each_any s w1)).mono ?_⟩
    rintro e w2 ⟨rfl, rfl⟩
    have F2a : Fr [] w1 (w1.alloc (.cells #[.string s] 9)) := (Fr.refl _ _).alloc _
    have B2 : (w1.alloc (.cells #[.string s] 9)).heap[w1.heap.size]? = some (.cells #[.string s] 9 (0, 0)) := heap_alloc_new w1 _
    have F2 := F1.trans F2a
    have T2 := T1.fr F2a (by simp)
    have hbxN : Hid (w.heap.size ≤ w1.heap.size) := F1.size
    generalize w1.alloc (.cells #[.string s] 9) = w2 at *
    generalize w1.heap.size = bx at *
    clear F1 F2a T1
    have hfn := func_nil bx w2
    gi_wp2
    clear hfn
    refine range_brk (gf := 28) (lb := #[.pointer (some ⟨bx, 0, none⟩)]) rfl (enters_of Tryd.func28 (by kernel_rfl) rfl) ?_
    intro rec hYr
    show CallsIn Fence.wide 0 Tryd.prog 28 #[.func (.yield (w2.heap.size + 1)) #[] #[], .pointer (some ⟨bx, 0, none⟩)] _ _
    have f3 : Fr [] w2 ((w2.alloc (.deferred (some []))).alloc (.loop (rec .ready none))) := ((Fr.refl _ _).alloc _).alloc _
    have hL3 := blk2 w2 (.deferred (some [])) (.loop (rec .ready none))
    have hD3 : ((w2.alloc (.deferred (some []))).alloc (.loop (rec .ready none))).heap[w2.heap.size]? = some (.deferred (some [])) := (Below.heap_alloc _ _ _ (by simp)).trans (heap_alloc_new w2 _)
    have hs3 : ((w2.alloc (.deferred (some []))).alloc (.loop (rec .ready none))).heap.size = w2.heap.size + 2 := by simp
    generalize (w2.alloc (.deferred (some []))).alloc (.loop (rec .ready none)) = w3 at *
    have T3 := T2.fr f3 (by simp)
    have B3 := (f3.block _ (Array.getElem?_eq_some_iff.1 B2).1 (by simp)).trans B2
    have h3w : Hid (3 ≤ w2.heap.size) := T2.len
    refine (each1 (fun _ => false) (fun d X => d = [] ∧ FG w2 rec (rec .ready none) X) (FQ w2 rec) s hs2 bx (w2.heap.size + 1) w3
      (fun d X X' S g f hS => ⟨g.1, g.2.fr f (fun j hj => by have := (hS j hj).1; omega)⟩) (fun r X X' S q f hS => q.fr f (fun j hj => by have := (hS j hj).1; omega))
      (fun d X g => g.2) (fun d p e X g => g.2) ?_ ⟨rfl, f3, hL3, hD3⟩ T3 B3).mono ?_
    · intro d t X0 X S hdl _ hg0 hF hS hT
      have hgX := hg0.2.fr hF (fun j hj => by have := (hS j hj).1; omega)
      have hlX := (Array.getElem?_eq_some_iff.1 hg0.2.rd).1
      refine hYr _ X _ rfl hgX.rd ?_
      clear hYr
      gi_wp2
      refine ⟨hgX.rd, ?_⟩
      have z1 := World.putObj_heap_same (w := X) (r := w2.heap.size + 1) (o := .loop (rec .busy none)) (Array.getElem?_eq_some_iff.1 hgX.rd).1
      have f1 := Fr.putObj (W := X) (l := w2.heap.size + 1) (.loop (rec .busy none))
      have d1 : (X.putObj (w2.heap.size + 1) (.loop (rec .busy none))).heap[w2.heap.size]? = _ := (World.putObj_heap_other (by omega)).trans hgX.dfr
      have o1 : Fr [] w2 (X.putObj (w2.heap.size + 1) (.loop (rec .busy none))) := ((hgX.old.sub (T := [w2.heap.size + 1]) (by simp)).trans f1).sub (fun k hk => .inr (by simp at hk; omega))
      generalize X.putObj (w2.heap.size + 1) (.loop (rec .busy none)) = X1 at *
      gi_wp2
      have f2 := Fr.putObj (W := X1) (l := w2.heap.size + 1) (.loop (rec .done (some (.exit 0))))
      refine ⟨z1, rfl, ⟨[w2.heap.size + 1], f1.trans f2, fun j hj => ?_⟩, ?_⟩
      · simp at hj
        subst hj
        have := h3w.out
        exact ⟨by omega, by omega, by omega⟩
      · exact ⟨((o1.sub (T := [w2.heap.size + 1]) (by simp)).trans f2).sub (fun k hk => .inr (by simp at hk; omega)), World.putObj_heap_same (Array.getElem?_eq_some_iff.1 z1).1, (World.putObj_heap_other (by omega)).trans d1⟩
    · rintro e W3 ⟨hv, hQ⟩
      have two : FG w2 rec (rec .ready none) W3 ∨ FG w2 rec (rec .done (some (.exit 0))) W3 := by
        revert hQ
        rcases walkT (fun _ => false) [] (sc s 0).1 (sc s 0).2 with d | ⟨d, p, e⟩ | d
        · exact fun h => .inl h
        · exact fun h => .inl h
        · exact fun h => .inr h
      refine ⟨hv, ?_⟩
      clear hQ hYr hs3 hL3 hD3
      have nxt : ∀ st o, FG w2 rec st W3 → Fr [] w2 (W3.putObj (w2.heap.size + 1) o) ∧ (W3.putObj (w2.heap.size + 1) o).heap[w2.heap.size]? = some (.deferred (some [])) := fun st o g =>
        ⟨((g.old.sub (T := [w2.heap.size + 1]) (by simp)).trans (Fr.putObj _)).sub (fun k hk => .inr (by simp at hk; omega)), (World.putObj_heap_other (by omega)).trans g.dfr⟩
      have NXT : Hid (∀ st o, FG w2 rec st W3 → Fr [] w2 (W3.putObj (w2.heap.size + 1) o) ∧ (W3.putObj (w2.heap.size + 1) o).heap[w2.heap.size]? = some (.deferred (some []))) := nxt
      clear nxt
      have Bx : Hid (w2.heap[bx]? = some (.cells #[.string s] 9 (0, 0))) := B2
      rcases two with g | g
      · obtain ⟨O4, D4⟩ := NXT.out _ (.loop (rec .exhausted none)) g
        refine .inl ⟨g.rd, ?_⟩
        clear g NXT
        generalize W3.putObj (w2.heap.size + 1) (.loop (rec .exhausted none)) = W4 at *
        gi_wp2
        have K5 : (W4.alloc (.cells #[.slice none 0 0] 23)).heap[W4.heap.size]? = some (.cells #[.slice none 0 0] 23 (0, 0)) := heap_alloc_new W4 _
        have f45 : Fr [] W4 (W4.alloc (.cells #[.slice none 0 0] 23)) := (Fr.refl _ _).alloc _
        have hs5 : (W4.alloc (.cells #[.slice none 0 0] 23)).heap.size = W4.heap.size + 1 := by simp
        generalize W4.alloc (.cells #[.slice none 0 0] 23) = W5 at *
        refine range_outer (gf := 28) (lb := #[.pointer (some ⟨bx, 0, none⟩)]) rfl (enters_of Tryd.func28 (by kernel_rfl) rfl) ?_
        intro rec2 hYr2
        show CallsIn Fence.wide 0 Tryd.prog 28 #[.func (.yield (W5.heap.size + 1)) #[] #[], .pointer (some ⟨bx, 0, none⟩)] _ _
        have f6 : Fr [] W5 ((W5.alloc (.deferred (some []))).alloc (.loop (rec2 .ready none))) := ((Fr.refl _ _).alloc _).alloc _
        have hL6 := blk2 W5 (.deferred (some [])) (.loop (rec2 .ready none))
        have hD6 : ((W5.alloc (.deferred (some []))).alloc (.loop (rec2 .ready none))).heap[W5.heap.size]? = some (.deferred (some [])) := (Below.heap_alloc _ _ _ (by simp)).trans (heap_alloc_new W5 _)
        have hs6 : ((W5.alloc (.deferred (some []))).alloc (.loop (rec2 .ready none))).heap.size = W4.heap.size + 3 := by simp [hs5]
        generalize (W5.alloc (.deferred (some []))).alloc (.loop (rec2 .ready none)) = W6 at *
        rw [hs5] at hL6 hD6 hYr2 ⊢
        have f46 := f45.trans f6
        have K6 := (f6.block _ (Array.getElem?_eq_some_iff.1 K5).1 (by simp)).trans K5
        have O6 := O4.trans f46
        have T6 := T2.fr O6 (by simp)
        have B6 := (O6.block _ (Array.getElem?_eq_some_iff.1 Bx.out).1 (by simp)).trans Bx.out
        have h4w : Hid (3 ≤ W4.heap.size) := (T2.fr O4 (by simp)).len
        have HN : Hid (w2.heap.size < W4.heap.size) := (Array.getElem?_eq_some_iff.1 D4).1
        refine (each1 (fun _ => true) (HG W4 rec2) (HQ W4 rec2) s hs2 bx (W4.heap.size + 1 + 1) W6
          (fun d X X' S g f hS => g.fr f (fun j hj => ⟨by have := (hS j hj).1; omega, (hS j hj).2⟩))
          (fun r X X' S q f hS => by
            rcases r with d | ⟨d, p, e⟩ | d
            · exact HG.fr q f (fun j hj => ⟨by have := (hS j hj).1; omega, (hS j hj).2⟩)
            · exact HG.fr q f (fun j hj => ⟨by have := (hS j hj).1; omega, (hS j hj).2⟩)
            · exact q.elim)
          (fun d X g => g) (fun d p e X g => g) ?_ ⟨f46, ⟨_, K6, World.ownsRow_nil _ _ _ _⟩, hL6, hD6, by simp⟩ T6 B6).mono ?_
        · intro d t X0 X S hdl hX4 hg0 hF hS hT
          have HX4 : Hid (W4.heap.size + 7 ≤ X0.heap.size) := by show _ ≤ _; omega
          clear hX4
          have hg := hg0.fr hF (fun j hj => ⟨by have := (hS j hj).1; omega, (hS j hj).2⟩)
          have hta : Hid (flatT (d ++ [t]) = flatT d ++ [.int .i64 t.kind, .string ⟨t.text.toArray⟩, .int .i64 t.frm, .int .i64 t.to, .int .i64 t.n]) := by
            show _ = _
            rw [flatT_append, flatT_one]
            rfl
          unfold tokA
          generalize (t.kind : Int) = x0 at hta ⊢
          generalize (⟨t.text.toArray⟩ : ByteArray) = x1 at hta ⊢
          generalize (t.frm : Int) = x2 at hta ⊢
          generalize (t.to : Int) = x3 at hta ⊢
          generalize (t.n : Int) = x4 at hta ⊢
          have HDL : Hid (d.length + 1 ≤ 2000) := Nat.le_trans hdl HS2.out
          have HX0 : Hid (W4.heap.size + 2 < X0.heap.size) := (Array.getElem?_eq_some_iff.1 hg0.rd).1
          have HS6 : Hid (W6.heap.size = W4.heap.size + 3) := hs6
          have hl0 : ∃ sv0, Hid (∀ k, sv0.ownBlock = some k → W4.heap.size + 7 ≤ k ∧ k < X0.heap.size) ∧ X0.heap[W4.heap.size]? = some (.cells #[sv0] 23 (0, 0)) := by
            obtain ⟨sv0, hb0, ho0⟩ := hg0.box
            exact ⟨sv0, fun k hk => ho0.lt k hk, hb0⟩
          obtain ⟨sv0, hl0, hb0⟩ := hl0
          obtain ⟨sv, hbX, hoX⟩ := hg.box
          obtain rfl : sv0 = sv := by
            have := (hF.block _ (Array.getElem?_eq_some_iff.1 hb0).1 (fun hm => by have := (hS _ hm).1; omega)).trans hb0
            rw [hbX] at this
            simp at this
            exact this.symm
          clear hb0 hdl hs6 hs5
          have hXX0 : Hid (X0.heap.size ≤ X.heap.size) := hF.size
          refine hYr2 _ X _ rfl hg.rd ?_
          clear hYr2
          gi_wp2
          have fA : Fr [] X (X.alloc (.cells #[.int .i64 x0, .string x1, .int .i64 x2, .int .i64 x3, .int .i64 x4] 35)) := (Fr.refl _ _).alloc _
          have uA := TB.new X (.int .i64 x0) (.string x1) (.int .i64 x2) (.int .i64 x3) (.int .i64 x4)
          have hgA := hg.fr fA (by simp)
          have hbA := (fA.block _ (Array.getElem?_eq_some_iff.1 hbX).1 (by simp)).trans hbX
          have hoA := own_fr hoX fA (fun _ _ => by simp)
          refine ⟨hgA.rd, ?_⟩
          generalize X.alloc (.cells #[.int .i64 x0, .string x1, .int .i64 x2, .int .i64 x3, .int .i64 x4] 35) = XA at *
          generalize hCC : X.heap.size = C at *
          have hbl := (Array.getElem?_eq_some_iff.1 hgA.rd).1
          have f1 := Fr.putObj (W := XA) (l := W4.heap.size + 1 + 1) (.loop (rec2 .busy none))
          have z1 := World.putObj_heap_same (w := XA) (r := W4.heap.size + 1 + 1) (o := .loop (rec2 .busy none)) hbl
          have hb1 : (XA.putObj (W4.heap.size + 1 + 1) (.loop (rec2 .busy none))).heap[W4.heap.size]? = _ := (World.putObj_heap_other (by omega)).trans hbA
          have hd1 : (XA.putObj (W4.heap.size + 1 + 1) (.loop (rec2 .busy none))).heap[W4.heap.size + 1]? = _ := (World.putObj_heap_other (by omega)).trans hgA.dfr
          have u1 : TB (XA.putObj (W4.heap.size + 1 + 1) (.loop (rec2 .busy none))) C _ _ _ _ _ := uA.fr f1 (by simp; have := HX0.out; have := hXX0.out; omega)
          have ho1 := own_fr hoA f1 (fun k hk => by simp; have := (hl0.out k hk).1; omega)
          have f01 : Fr [W4.heap.size + 1 + 1] X (XA.putObj (W4.heap.size + 1 + 1) (.loop (rec2 .busy none))) := (fA.sub (by simp)).trans f1
          have hO1 : Fr [] W4 (XA.putObj (W4.heap.size + 1 + 1) (.loop (rec2 .busy none))) := ((hgA.old.sub (T := [W4.heap.size + 1 + 1]) (by simp)).trans f1).sub (fun k hk => .inr (by simp at hk; omega))
          have ca := at_cells hb1 0 rfl
          have hsz : Hid (C < (XA.putObj (W4.heap.size + 1 + 1) (.loop (rec2 .busy none))).heap.size) := u1.lt
          generalize XA.putObj (W4.heap.size + 1 + 1) (.loop (rec2 .busy none)) = X1 at *
          clear hbl f1 uA fA hbA hoA hgA hg hbX hoX
          have e0 := u1.c0
          have e1 := u1.c1
          have e2 := u1.c2
          have e3 := u1.c3
          have e4 := u1.c4
          have hnew := tok_new X1 (.int .i64 x0) (.string x1) (.int .i64 x2) (.int .i64 x3) (.int .i64 x4)
          clear hCC
          gi_wp2_with (gi_at_builtin; refine wpListIn_append_own_at _ rfl _ _ 23 rfl (W4.heap.size + 7) 35 i5 (.agg #[.int .i64 0, .string ⟨#[]⟩, .int .i64 0, .int .i64 0, .int .i64 0]) 5 48 under23 hi hz hz1 hby rfl (by decide) sv0 d.length (flatT d) rfl (ho1.alloc _) ⟨X1.heap.size, 0, none⟩ 1 1 [.int .i64 x0, .string x1, .int .i64 x2, .int .i64 x3, .int .i64 x4] rfl rfl hnew (by simp [Value.oneCell']) (by have := HDL.out; have : maxLen = 9223372036854775807 := rfl; omega) (by have := HDL.out; omega) ?base ?_)
          case base => have := HX4.out; have := hXX0.out; have := hsz.out; simp; omega
          intro v1 w3' hown1 hgrow hnil hloc
          have f2 : Fr sv0.ownBlock.toList X1 w3' := ((Fr.refl _ _).alloc _).trans ((Fr.ofGrown hgrow).sub (fun k hk => .inl hk))
          have keep : ∀ {k : Nat} {o : Obj}, k < W4.heap.size + 7 → X1.heap[k]? = some o → w3'.heap[k]? = some o := fun hk h1 => (f2.block _ (Array.getElem?_eq_some_iff.1 h1).1 (fun hm => by have := (hl0.out _ (by simpa using hm)).1; omega)).trans h1
          have hb2 := keep (by omega) hb1
          have hd2 := keep (by omega) hd1
          have hz2 := keep (by omega) z1
          have cb1 := at_cells hb2 0 rfl
          have fb1 : w3'.frozen? ⟨W4.heap.size, 0, none⟩ = false := by simp [World.frozen?, hb2]
          obtain ⟨av, cv, hv', _⟩ := own_slice hown1
          subst hv'
          have hlo1 : Hid (∀ k, (Value.slice av (d.length + 1) cv).ownBlock = some k → W4.heap.size + 7 ≤ k) := fun k hk => (hown1.lt k hk).1
          clear ca hgrow e0 e1 e2 e3 e4 hnew keep u1
          gi_wp2
          have f3' : Fr [W4.heap.size] w3' (w3'.setCell ⟨W4.heap.size, 0, none⟩ (.slice av (d.length + 1) cv)) := Fr.setCell (Fr.refl _ _) (.inl (by simp)) _
          have hb3 := set_same (v := .slice av (d.length + 1) cv) hb2
          have hd3 := set_other (v := .slice av (d.length + 1) cv) (j := W4.heap.size) (by omega) hd2
          have hz3 := set_other (v := .slice av (d.length + 1) cv) (j := W4.heap.size) (by omega) hz2
          have hown3 := own_fr hown1 f3' (fun k hk => by simp; have := hlo1.out k hk; omega)
          have hO3 : Fr [] W4 (w3'.setCell ⟨W4.heap.size, 0, none⟩ (.slice av (d.length + 1) cv)) := ((hO1.sub (T := W4.heap.size :: sv0.ownBlock.toList) (by simp)).trans ((f2.sub (fun k hk => .inl (by simp at hk; simp [hk]))).trans (f3'.sub (fun k hk => .inl (by simp at hk; simp [hk]))))).sub (fun k hk => .inr (by
            simp only [List.mem_cons, Option.mem_toList] at hk
            rcases hk with rfl | hk
            · omega
            · have := (hl0.out k hk).1; omega))
          have hM3 : Fr ((W4.heap.size + 1 + 1) :: W4.heap.size :: sv0.ownBlock.toList) X (w3'.setCell ⟨W4.heap.size, 0, none⟩ (.slice av (d.length + 1) cv)) :=
            (f01.sub (fun k hk => .inl (by simp at hk; simp [hk]))).trans ((f2.sub (fun k hk => .inl (by simp at hk; simp [hk]))).trans (f3'.sub (fun k hk => .inl (by simp at hk; simp [hk]))))
          generalize w3'.setCell ⟨W4.heap.size, 0, none⟩ (.slice av (d.length + 1) cv) = w4' at *
          have f4 := Fr.putObj (W := w4') (l := W4.heap.size + 1 + 1) (.loop (rec2 .ready none))
          have k4 : ∀ {k : Nat} {o : Obj}, k ≠ W4.heap.size + 1 + 1 → w4'.heap[k]? = some o → (w4'.putObj (W4.heap.size + 1 + 1) (.loop (rec2 .ready none))).heap[k]? = some o := fun hk h1 => (World.putObj_heap_other hk).trans h1
          have hown4 := own_fr hown3 f4 (fun k hk => by simp; have := hlo1.out k hk; omega)
          refine ⟨hz3, rfl, ⟨(W4.heap.size + 1 + 1) :: W4.heap.size :: sv0.ownBlock.toList, hM3.trans (f4.sub (fun k hk => .inl (by simp at hk; simp [hk]))), fun j hj => ?_⟩, ?_⟩
          · simp only [List.mem_cons, Option.mem_toList] at hj
            have h0 := HX0.out
            have h1 := HS6.out
            have h2 := h4w.out
            rcases hj with rfl | rfl | hj
            · exact ⟨by omega, by omega, .inl (by omega)⟩
            · exact ⟨by omega, by omega, .inl (by omega)⟩
            · have := hl0.out j hj
              exact ⟨by omega, by omega, .inr (by omega)⟩
          · refine ⟨((hO3.sub (T := [W4.heap.size + 1 + 1]) (by simp)).trans f4).sub (fun k hk => .inr (by simp at hk; omega)), ⟨_, k4 (by omega) hb3, ?_⟩, World.putObj_heap_same (Array.getElem?_eq_some_iff.1 hz3).1, k4 (by omega) hd3, by have := HDL.out; simp; omega⟩
            rw [hta.out]
            simpa using hown4
        · rintro e W7 ⟨hv7, hQ7⟩
          have hg7 : HG W4 rec2 (sc s 0).1 W7 := by
            rw [walkT_all] at hQ7
            cases her : (sc s 0).2 with
            | none => rw [her] at hQ7; exact hQ7
            | some x => rw [her] at hQ7; exact hQ7
          clear hQ7 hYr2
          refine ⟨hv7, .inl ⟨hg7.rd, ?_⟩⟩
          obtain ⟨sv, hb7, ho7⟩ := hg7.box
          have f8 := Fr.putObj (W := W7) (l := W4.heap.size + 1 + 1) (.loop (rec2 .exhausted none))
          have hlo7 : Hid (∀ k, sv.ownBlock = some k → W4.heap.size + 7 ≤ k) := fun k hk => (ho7.lt k hk).1
          have hb8 : (W7.putObj (W4.heap.size + 1 + 1) (.loop (rec2 .exhausted none))).heap[W4.heap.size]? = _ := (World.putObj_heap_other (by omega)).trans hb7
          have hd8 : (W7.putObj (W4.heap.size + 1 + 1) (.loop (rec2 .exhausted none))).heap[W4.heap.size + 1]? = _ := (World.putObj_heap_other (by omega)).trans hg7.dfr
          have ho8 := own_fr ho7 f8 (fun k hk => by simp; have := hlo7.out k hk; omega)
          have O8 : Fr [] W4 (W7.putObj (W4.heap.size + 1 + 1) (.loop (rec2 .exhausted none))) := ((hg7.old.sub (T := [W4.heap.size + 1 + 1]) (by simp)).trans f8).sub (fun k hk => .inr (by simp at hk; omega))
          have D8 := (O8.block _ (Array.getElem?_eq_some_iff.1 D4).1 (by simp)).trans D4
          generalize W7.putObj (W4.heap.size + 1 + 1) (.loop (rec2 .exhausted none)) = W8 at *
          have hlen := sc_len (s := s)
          have hgood := fun W => good_any s W hs2
          obtain ⟨av, cv, hv8, hn8⟩ := own_slice ho8
          subst hv8
          have hL8 : ∃ g, (0 < (sc s 0).1.length → av = some ⟨g, 0, none⟩) ∧ Lt W8 g 0 (sc s 0).1 := by
            by_cases h0 : 0 < (sc s 0).1.length
            · obtain ⟨g, c, e1, _, L⟩ := own_Lt ho8 h0
              injection e1 with e1 _ _
              exact ⟨g, fun _ => e1, L⟩
            · refine ⟨0, fun h => absurd h h0, fun j u hu => ?_⟩
              have : (sc s 0).1 = [] := List.eq_nil_of_length_eq_zero (by omega)
              rw [this] at hu
              simp [flatT] at hu
          obtain ⟨g1, hg1, L1⟩ := hL8
          have cb8 := at_cells hb8 0 rfl
          have F8 : Fr [] w W8 := (F2.trans O4).trans O8
          unfold goodOut at hgood
          generalize (sc s 0).1 = ts at *
          clear hg7 hb7 ho7 f8 f45 f46 f6 K5 K6 hL6 hD6 O6 T6 B6 hs6
          gi_wp2
          have HLN : Hid (ts.length ≤ 1000000) := by have := HS2.out; show _ ≤ _; omega
          clear hlen
          refine wpIn_mono (Q := NoPanic _) ?_ NoPanic.imp
          gi_region_with (first
            | (refine ⟨trivial, rfl, ?_⟩; gi_at_call 14; refine (callsIn_wide.2 (hgood _)).mono ?_; rintro e w9 ⟨a9, c9, g9, rfl, hg9, L9, F9⟩; have F89 : Fr [] W8 w9 := ((Fr.refl [] W8).drew).trans F9; have cb9 := F89.cell1 cb8 (by simp))
            | (refine ⟨trivial, rfl, ?_⟩; gi_at_call 12; refine (callsIn_wide.2 (same_any w9 av a9 g1 g9 0 0 ts.length cv c9 ts rfl hg1 hg9 (L1.fr F89) L9 HLN.out)).mono ?_; rintro e w10 ⟨rfl, F10⟩))
          all_goals
            refine NoPanic.normal ?_
            have F810 := F89.trans F10
            have hd10 := (F810.block _ (Array.getElem?_eq_some_iff.1 hd8).1 (by simp)).trans hd8
            have D10 := (F810.block _ (Array.getElem?_eq_some_iff.1 D8).1 (by simp)).trans D8
            have FF := F8.trans F810
            clear F810 F10 F89 F9 cb9 L9 hg9
            gi_wp2
            have D11 : (w10.putObj (W4.heap.size + 1) (.deferred none)).heap[w2.heap.size]? = some (.deferred (some [])) := (World.putObj_heap_other (by have := HN.out; omega)).trans D10
            have hFf := ((FF.sub (T := [W4.heap.size + 1, w2.heap.size]) (by simp)).trans (((Fr.putObj (W := w10) (l := W4.heap.size + 1) (.deferred none)).sub (fun k hk => .inl (by simp at hk; simp [hk]))).trans ((Fr.putObj (W := w10.putObj (W4.heap.size + 1) (.deferred none)) (l := w2.heap.size) (.deferred none)).sub (fun k hk => .inl (by simp at hk; simp [hk]))))).sub (T := []) (fun k hk => .inr (by
              have h1 := HN.out
              have h2 := F2.size
              simp at hk
              omega))
            refine ⟨by simp, .inl ⟨_, _, rfl, run_takeDeferred hd10, ?_⟩⟩
            refine ⟨by simp, .inl ⟨_, _, rfl, run_takeDeferred D11, ?_⟩⟩
            exact ⟨_, results_tmp rfl _ _ _, rfl, hFf⟩
      · obtain ⟨O4, D4⟩ := NXT.out _ (.loop (rec .exhausted (some (.exit 0)))) g
        refine .inr (.inr ⟨0, g.rd, ?_⟩)
        clear g NXT
        generalize W3.putObj (w2.heap.size + 1) (.loop (rec .exhausted (some (.exit 0)))) = W4 at *
        gi_wp2
        have K5 : (W4.alloc (.cells #[.slice none 0 0] 23)).heap[W4.heap.size]? = some (.cells #[.slice none 0 0] 23 (0, 0)) := heap_alloc_new W4 _
        have f45 : Fr [] W4 (W4.alloc (.cells #[.slice none 0 0] 23)) := (Fr.refl _ _).alloc _
        have hs5 : (W4.alloc (.cells #[.slice none 0 0] 23)).heap.size = W4.heap.size + 1 := by simp
        generalize W4.alloc (.cells #[.slice none 0 0] 23) = W5 at *
        refine range_outer (gf := 28) (lb := #[.pointer (some ⟨bx, 0, none⟩)]) rfl (enters_of Tryd.func28 (by kernel_rfl) rfl) ?_
        intro rec2 hYr2
        show CallsIn Fence.wide 0 Tryd.prog 28 #[.func (.yield (W5.heap.size + 1)) #[] #[], .pointer (some ⟨bx, 0, none⟩)] _ _
        have f6 : Fr [] W5 ((W5.alloc (.deferred (some []))).alloc (.loop (rec2 .ready none))) := ((Fr.refl _ _).alloc _).alloc _
        have hL6 := blk2 W5 (.deferred (some [])) (.loop (rec2 .ready none))
        have hD6 : ((W5.alloc (.deferred (some []))).alloc (.loop (rec2 .ready none))).heap[W5.heap.size]? = some (.deferred (some [])) := (Below.heap_alloc _ _ _ (by simp)).trans (heap_alloc_new W5 _)
        have hs6 : ((W5.alloc (.deferred (some []))).alloc (.loop (rec2 .ready none))).heap.size = W4.heap.size + 3 := by simp [hs5]
        generalize (W5.alloc (.deferred (some []))).alloc (.loop (rec2 .ready none)) = W6 at *
        rw [hs5] at hL6 hD6 hYr2 ⊢
        have f46 := f45.trans f6
        have K6 := (f6.block _ (Array.getElem?_eq_some_iff.1 K5).1 (by simp)).trans K5
        have O6 := O4.trans f46
        have T6 := T2.fr O6 (by simp)
        have B6 := (O6.block _ (Array.getElem?_eq_some_iff.1 Bx.out).1 (by simp)).trans Bx.out
        have h4w : Hid (3 ≤ W4.heap.size) := (T2.fr O4 (by simp)).len
        have HN : Hid (w2.heap.size < W4.heap.size) := (Array.getElem?_eq_some_iff.1 D4).1
        refine (each1 (fun _ => true) (HG W4 rec2) (HQ W4 rec2) s hs2 bx (W4.heap.size + 1 + 1) W6
          (fun d X X' S g f hS => g.fr f (fun j hj => ⟨by have := (hS j hj).1; omega, (hS j hj).2⟩))
          (fun r X X' S q f hS => by
            rcases r with d | ⟨d, p, e⟩ | d
            · exact HG.fr q f (fun j hj => ⟨by have := (hS j hj).1; omega, (hS j hj).2⟩)
            · exact HG.fr q f (fun j hj => ⟨by have := (hS j hj).1; omega, (hS j hj).2⟩)
            · exact q.elim)
          (fun d X g => g) (fun d p e X g => g) ?_ ⟨f46, ⟨_, K6, World.ownsRow_nil _ _ _ _⟩, hL6, hD6, by simp⟩ T6 B6).mono ?_
        · intro d t X0 X S hdl hX4 hg0 hF hS hT
          have HX4 : Hid (W4.heap.size + 7 ≤ X0.heap.size) := by show _ ≤ _; omega
          clear hX4
          have hg := hg0.fr hF (fun j hj => ⟨by have := (hS j hj).1; omega, (hS j hj).2⟩)
          have hta : Hid (flatT (d ++ [t]) = flatT d ++ [.int .i64 t.kind, .string ⟨t.text.toArray⟩, .int .i64 t.frm, .int .i64 t.to, .int .i64 t.n]) := by
            show _ = _
            rw [flatT_append, flatT_one]
            rfl
          unfold tokA
          generalize (t.kind : Int) = x0 at hta ⊢
          generalize (⟨t.text.toArray⟩ : ByteArray) = x1 at hta ⊢
          generalize (t.frm : Int) = x2 at hta ⊢
          generalize (t.to : Int) = x3 at hta ⊢
          generalize (t.n : Int) = x4 at hta ⊢
          have HDL : Hid (d.length + 1 ≤ 2000) := Nat.le_trans hdl HS2.out
          have HX0 : Hid (W4.heap.size + 2 < X0.heap.size) := (Array.getElem?_eq_some_iff.1 hg0.rd).1
          have HS6 : Hid (W6.heap.size = W4.heap.size + 3) := hs6
          have hl0 : ∃ sv0, Hid (∀ k, sv0.ownBlock = some k → W4.heap.size + 7 ≤ k ∧ k < X0.heap.size) ∧ X0.heap[W4.heap.size]? = some (.cells #[sv0] 23 (0, 0)) := by
            obtain ⟨sv0, hb0, ho0⟩ := hg0.box
            exact ⟨sv0, fun k hk => ho0.lt k hk, hb0⟩
          obtain ⟨sv0, hl0, hb0⟩ := hl0
          obtain ⟨sv, hbX, hoX⟩ := hg.box
          obtain rfl : sv0 = sv := by
            have := (hF.block _ (Array.getElem?_eq_some_iff.1 hb0).1 (fun hm => by have := (hS _ hm).1; omega)).trans hb0
            rw [hbX] at this
            simp at this
            exact this.symm
          clear hb0 hdl hs6 hs5
          have hXX0 : Hid (X0.heap.size ≤ X.heap.size) := hF.size
          refine hYr2 _ X _ rfl hg.rd ?_
          clear hYr2
          gi_wp2
          have fA : Fr [] X (X.alloc (.cells #[.int .i64 x0, .string x1, .int .i64 x2, .int .i64 x3, .int .i64 x4] 35)) := (Fr.refl _ _).alloc _
          have uA := TB.new X (.int .i64 x0) (.string x1) (.int .i64 x2) (.int .i64 x3) (.int .i64 x4)
          have hgA := hg.fr fA (by simp)
          have hbA := (fA.block _ (Array.getElem?_eq_some_iff.1 hbX).1 (by simp)).trans hbX
          have hoA := own_fr hoX fA (fun _ _ => by simp)
          refine ⟨hgA.rd, ?_⟩
          generalize X.alloc (.cells #[.int .i64 x0, .string x1, .int .i64 x2, .int .i64 x3, .int .i64 x4] 35) = XA at *
          generalize hCC : X.heap.size = C at *
          have hbl := (Array.getElem?_eq_some_iff.1 hgA.rd).1
          have f1 := Fr.putObj (W := XA) (l := W4.heap.size + 1 + 1) (.loop (rec2 .busy none))
          have z1 := World.putObj_heap_same (w := XA) (r := W4.heap.size + 1 + 1) (o := .loop (rec2 .busy none)) hbl
          have hb1 : (XA.putObj (W4.heap.size + 1 + 1) (.loop (rec2 .busy none))).heap[W4.heap.size]? = _ := (World.putObj_heap_other (by omega)).trans hbA
          have hd1 : (XA.putObj (W4.heap.size + 1 + 1) (.loop (rec2 .busy none))).heap[W4.heap.size + 1]? = _ := (World.putObj_heap_other (by omega)).trans hgA.dfr
          have u1 : TB (XA.putObj (W4.heap.size + 1 + 1) (.loop (rec2 .busy none))) C _ _ _ _ _ := uA.fr f1 (by simp; have := HX0.out; have := hXX0.out; omega)
          have ho1 := own_fr hoA f1 (fun k hk => by simp; have := (hl0.out k hk).1; omega)
          have f01 : Fr [W4.heap.size + 1 + 1] X (XA.putObj (W4.heap.size + 1 + 1) (.loop (rec2 .busy none))) := (fA.sub (by simp)).trans f1
          have hO1 : Fr [] W4 (XA.putObj (W4.heap.size + 1 + 1) (.loop (rec2 .busy none))) := ((hgA.old.sub (T := [W4.heap.size + 1 + 1]) (by simp)).trans f1).sub (fun k hk => .inr (by simp at hk; omega))
          have ca := at_cells hb1 0 rfl
          have hsz : Hid (C < (XA.putObj (W4.heap.size + 1 + 1) (.loop (rec2 .busy none))).heap.size) := u1.lt
          generalize XA.putObj (W4.heap.size + 1 + 1) (.loop (rec2 .busy none)) = X1 at *
          clear hbl f1 uA fA hbA hoA hgA hg hbX hoX
          have e0 := u1.c0
          have e1 := u1.c1
          have e2 := u1.c2
          have e3 := u1.c3
          have e4 := u1.c4
          have hnew := tok_new X1 (.int .i64 x0) (.string x1) (.int .i64 x2) (.int .i64 x3) (.int .i64 x4)
          clear hCC
          gi_wp2_with (gi_at_builtin; refine wpListIn_append_own_at _ rfl _ _ 23 rfl (W4.heap.size + 7) 35 i5 (.agg #[.int .i64 0, .string ⟨#[]⟩, .int .i64 0, .int .i64 0, .int .i64 0]) 5 48 under23 hi hz hz1 hby rfl (by decide) sv0 d.length (flatT d) rfl (ho1.alloc _) ⟨X1.heap.size, 0, none⟩ 1 1 [.int .i64 x0, .string x1, .int .i64 x2, .int .i64 x3, .int .i64 x4] rfl rfl hnew (by simp [Value.oneCell']) (by have := HDL.out; have : maxLen = 9223372036854775807 := rfl; omega) (by have := HDL.out; omega) ?base ?_)
          case base => have := HX4.out; have := hXX0.out; have := hsz.out; simp; omega
          intro v1 w3' hown1 hgrow hnil hloc
          have f2 : Fr sv0.ownBlock.toList X1 w3' := ((Fr.refl _ _).alloc _).trans ((Fr.ofGrown hgrow).sub (fun k hk => .inl hk))
          have keep : ∀ {k : Nat} {o : Obj}, k < W4.heap.size + 7 → X1.heap[k]? = some o → w3'.heap[k]? = some o := fun hk h1 => (f2.block _ (Array.getElem?_eq_some_iff.1 h1).1 (fun hm => by have := (hl0.out _ (by simpa using hm)).1; omega)).trans h1
          have hb2 := keep (by omega) hb1
          have hd2 := keep (by omega) hd1
          have hz2 := keep (by omega) z1
          have cb1 := at_cells hb2 0 rfl
          have fb1 : w3'.frozen? ⟨W4.heap.size, 0, none⟩ = false := by simp [World.frozen?, hb2]
          obtain ⟨av, cv, hv', _⟩ := own_slice hown1
          subst hv'
          have hlo1 : Hid (∀ k, (Value.slice av (d.length + 1) cv).ownBlock = some k → W4.heap.size + 7 ≤ k) := fun k hk => (hown1.lt k hk).1
          clear ca hgrow e0 e1 e2 e3 e4 hnew keep u1
          gi_wp2
          have f3' : Fr [W4.heap.size] w3' (w3'.setCell ⟨W4.heap.size, 0, none⟩ (.slice av (d.length + 1) cv)) := Fr.setCell (Fr.refl _ _) (.inl (by simp)) _
          have hb3 := set_same (v := .slice av (d.length + 1) cv) hb2
          have hd3 := set_other (v := .slice av (d.length + 1) cv) (j := W4.heap.size) (by omega) hd2
          have hz3 := set_other (v := .slice av (d.length + 1) cv) (j := W4.heap.size) (by omega) hz2
          have hown3 := own_fr hown1 f3' (fun k hk => by simp; have := hlo1.out k hk; omega)
          have hO3 : Fr [] W4 (w3'.setCell ⟨W4.heap.size, 0, none⟩ (.slice av (d.length + 1) cv)) := ((hO1.sub (T := W4.heap.size :: sv0.ownBlock.toList) (by simp)).trans ((f2.sub (fun k hk => .inl (by simp at hk; simp [hk]))).trans (f3'.sub (fun k hk => .inl (by simp at hk; simp [hk]))))).sub (fun k hk => .inr (by
            simp only [List.mem_cons, Option.mem_toList] at hk
            rcases hk with rfl | hk
            · omega
            · have := (hl0.out k hk).1; omega))
          have hM3 : Fr ((W4.heap.size + 1 + 1) :: W4.heap.size :: sv0.ownBlock.toList) X (w3'.setCell ⟨W4.heap.size, 0, none⟩ (.slice av (d.length + 1) cv)) :=
            (f01.sub (fun k hk => .inl (by simp at hk; simp [hk]))).trans ((f2.sub (fun k hk => .inl (by simp at hk; simp [hk]))).trans (f3'.sub (fun k hk => .inl (by simp at hk; simp [hk]))))
          generalize w3'.setCell ⟨W4.heap.size, 0, none⟩ (.slice av (d.length + 1) cv) = w4' at *
          have f4 := Fr.putObj (W := w4') (l := W4.heap.size + 1 + 1) (.loop (rec2 .ready none))
          have k4 : ∀ {k : Nat} {o : Obj}, k ≠ W4.heap.size + 1 + 1 → w4'.heap[k]? = some o → (w4'.putObj (W4.heap.size + 1 + 1) (.loop (rec2 .ready none))).heap[k]? = some o := fun hk h1 => (World.putObj_heap_other hk).trans h1
          have hown4 := own_fr hown3 f4 (fun k hk => by simp; have := hlo1.out k hk; omega)
          refine ⟨hz3, rfl, ⟨(W4.heap.size + 1 + 1) :: W4.heap.size :: sv0.ownBlock.toList, hM3.trans (f4.sub (fun k hk => .inl (by simp at hk; simp [hk]))), fun j hj => ?_⟩, ?_⟩
          · simp only [List.mem_cons, Option.mem_toList] at hj
            have h0 := HX0.out
            have h1 := HS6.out
            have h2 := h4w.out
            rcases hj with rfl | rfl | hj
            · exact ⟨by omega, by omega, .inl (by omega)⟩
            · exact ⟨by omega, by omega, .inl (by omega)⟩
            · have := hl0.out j hj
              exact ⟨by omega, by omega, .inr (by omega)⟩
          · refine ⟨((hO3.sub (T := [W4.heap.size + 1 + 1]) (by simp)).trans f4).sub (fun k hk => .inr (by simp at hk; omega)), ⟨_, k4 (by omega) hb3, ?_⟩, World.putObj_heap_same (Array.getElem?_eq_some_iff.1 hz3).1, k4 (by omega) hd3, by have := HDL.out; simp; omega⟩
            rw [hta.out]
            simpa using hown4
        · rintro e W7 ⟨hv7, hQ7⟩
          have hg7 : HG W4 rec2 (sc s 0).1 W7 := by
            rw [walkT_all] at hQ7
            cases her : (sc s 0).2 with
            | none => rw [her] at hQ7; exact hQ7
            | some x => rw [her] at hQ7; exact hQ7
          clear hQ7 hYr2
          refine ⟨hv7, .inl ⟨hg7.rd, ?_⟩⟩
          obtain ⟨sv, hb7, ho7⟩ := hg7.box
          have f8 := Fr.putObj (W := W7) (l := W4.heap.size + 1 + 1) (.loop (rec2 .exhausted none))
          have hlo7 : Hid (∀ k, sv.ownBlock = some k → W4.heap.size + 7 ≤ k) := fun k hk => (ho7.lt k hk).1
          have hb8 : (W7.putObj (W4.heap.size + 1 + 1) (.loop (rec2 .exhausted none))).heap[W4.heap.size]? = _ := (World.putObj_heap_other (by omega)).trans hb7
          have hd8 : (W7.putObj (W4.heap.size + 1 + 1) (.loop (rec2 .exhausted none))).heap[W4.heap.size + 1]? = _ := (World.putObj_heap_other (by omega)).trans hg7.dfr
          have ho8 := own_fr ho7 f8 (fun k hk => by simp; have := hlo7.out k hk; omega)
          have O8 : Fr [] W4 (W7.putObj (W4.heap.size + 1 + 1) (.loop (rec2 .exhausted none))) := ((hg7.old.sub (T := [W4.heap.size + 1 + 1]) (by simp)).trans f8).sub (fun k hk => .inr (by simp at hk; omega))
          have D8 := (O8.block _ (Array.getElem?_eq_some_iff.1 D4).1 (by simp)).trans D4
          generalize W7.putObj (W4.heap.size + 1 + 1) (.loop (rec2 .exhausted none)) = W8 at *
          have hlen := sc_len (s := s)
          have hgood := fun W => good_any s W hs2
          obtain ⟨av, cv, hv8, hn8⟩ := own_slice ho8
          subst hv8
          have hL8 : ∃ g, (0 < (sc s 0).1.length → av = some ⟨g, 0, none⟩) ∧ Lt W8 g 0 (sc s 0).1 := by
            by_cases h0 : 0 < (sc s 0).1.length
            · obtain ⟨g, c, e1, _, L⟩ := own_Lt ho8 h0
              injection e1 with e1 _ _
              exact ⟨g, fun _ => e1, L⟩
            · refine ⟨0, fun h => absurd h h0, fun j u hu => ?_⟩
              have : (sc s 0).1 = [] := List.eq_nil_of_length_eq_zero (by omega)
              rw [this] at hu
              simp [flatT] at hu
          obtain ⟨g1, hg1, L1⟩ := hL8
          have cb8 := at_cells hb8 0 rfl
          have F8 : Fr [] w W8 := (F2.trans O4).trans O8
          unfold goodOut at hgood
          generalize (sc s 0).1 = ts at *
          clear hg7 hb7 ho7 f8 f45 f46 f6 K5 K6 hL6 hD6 O6 T6 B6 hs6
          gi_wp2
          have HLN : Hid (ts.length ≤ 1000000) := by have := HS2.out; show _ ≤ _; omega
          clear hlen
          refine wpIn_mono (Q := NoPanic _) ?_ NoPanic.imp
          gi_region_with (first
            | (refine ⟨trivial, rfl, ?_⟩; gi_at_call 14; refine (callsIn_wide.2 (hgood _)).mono ?_; rintro e w9 ⟨a9, c9, g9, rfl, hg9, L9, F9⟩; have F89 : Fr [] W8 w9 := ((Fr.refl [] W8).drew).trans F9; have cb9 := F89.cell1 cb8 (by simp))
            | (refine ⟨trivial, rfl, ?_⟩; gi_at_call 12; refine (callsIn_wide.2 (same_any w9 av a9 g1 g9 0 0 ts.length cv c9 ts rfl hg1 hg9 (L1.fr F89) L9 HLN.out)).mono ?_; rintro e w10 ⟨rfl, F10⟩))
          all_goals
            refine NoPanic.normal ?_
            have F810 := F89.trans F10
            have hd10 := (F810.block _ (Array.getElem?_eq_some_iff.1 hd8).1 (by simp)).trans hd8
            have D10 := (F810.block _ (Array.getElem?_eq_some_iff.1 D8).1 (by simp)).trans D8
            have FF := F8.trans F810
            clear F810 F10 F89 F9 cb9 L9 hg9
            gi_wp2
            have D11 : (w10.putObj (W4.heap.size + 1) (.deferred none)).heap[w2.heap.size]? = some (.deferred (some [])) := (World.putObj_heap_other (by have := HN.out; omega)).trans D10
            have hFf := ((FF.sub (T := [W4.heap.size + 1, w2.heap.size]) (by simp)).trans (((Fr.putObj (W := w10) (l := W4.heap.size + 1) (.deferred none)).sub (fun k hk => .inl (by simp at hk; simp [hk]))).trans ((Fr.putObj (W := w10.putObj (W4.heap.size + 1) (.deferred none)) (l := w2.heap.size) (.deferred none)).sub (fun k hk => .inl (by simp at hk; simp [hk]))))).sub (T := []) (fun k hk => .inr (by
              have h1 := HN.out
              have h2 := F2.size
              simp at hk
              omega))
            refine ⟨by simp, .inl ⟨_, _, rfl, run_takeDeferred hd10, ?_⟩⟩
            refine ⟨by simp, .inl ⟨_, _, rfl, run_takeDeferred D11, ?_⟩⟩
            exact ⟨_, results_tmp rfl _ _ _, rfl, hFf⟩
end Go.Proofs.YtcfhngfogclheaaDoor
