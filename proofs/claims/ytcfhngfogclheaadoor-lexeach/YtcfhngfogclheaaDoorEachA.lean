/-
  Each tells the tokens one by one, whatever the caller does with each; conditions: the tables lie as the program's text lays them, the text is not too long.
-/
import Derived.Test.YtcfhngfogclheaaDoorCoversW
namespace Go.Proofs.YtcfhngfogclheaaDoor
open Go.RowKit Go.Shelf
attribute [local go_sem] Oper.semAt_some store_func

/-- A block from M on that holds no cells. -/
def Oth (M : Nat) (W : World) (j : Nat) : Prop := M ≤ j ∧ ∀ c t z, W.heap[j]? ≠ some (.cells c t z)

/-- What Each keeps from round to round. -/
structure EG (G : List Tok → World → Prop) (M l : Nat) (rec : LoopState → Option Code → Loop) (d : List Tok) (W : World) : Prop where
  g : G d W
  yb : W.heap[M]? = some (.cells #[.func (.yield l) #[] #[]] 49 (0, 0))
  dfr : W.heap[M + 2]? = some (.deferred (some []))
  rd : W.heap[M + 3]? = some (.loop (rec .ready none))
def EQ (G : List Tok → World → Prop) (Q : Res → World → Prop) (M l : Nat) (rec : LoopState → Option Code → Loop) : Res → World → Prop
  | .inl d, W => EG G M l rec d W
  | r, W => Q r W ∧ W.heap[M + 3]? = some (.loop (rec .done (some .ret))) ∧ W.heap[M + 2]? = some (.deferred (some []))

theorem each_any (s : ByteArray) (w : World) :
    Calls Tryd.prog 13 #[.string s] w fun e w' => e = .returned (.func (.func 28) #[] #[.pointer (some ⟨w.heap.size, 0, none⟩)]) ∧ w' = w.alloc (.cells #[.string s] 9) := by
  go_enter Tryd.func13, Tryd.ntmps13
  go_wp2
  go_ret
  exact ⟨rfl, rfl⟩

set_option maxRecDepth 100000 in
set_option maxHeartbeats 4000000 in
theorem each1 (go : List Tok → Bool) (G : List Tok → World → Prop) (Q : Res → World → Prop) (s : ByteArray) (hs : s.size ≤ 200000) (bx l : Nat) (W : World)
    (hG : ∀ d X X' S, G d X → Fr S X X' → (∀ j, j ∈ S → Oth W.heap.size X j) → G d X') (hQ : ∀ r X X' S, Q r X → Fr S X X' → (∀ j, j ∈ S → Oth W.heap.size X j) → Q r X')
    (hE : ∀ d X, G d X → Q (.inl d) X) (hFa : ∀ d p e X, G d X → Q (.inr (.inl (d, p, e))) X)
    (hY : ∀ d t X0 X S, d.length + 1 ≤ s.size → W.heap.size + 4 ≤ X0.heap.size → G d X0 → Fr S X0 X → (∀ j, j ∈ S → Oth W.heap.size X0 j) → Tabs X → YieldAt Fence.wide 0 Tryd.prog l #[.agg (tokA t)] X (fun e X' => e = .returned (.bool (go (d ++ [t]))) ∧ (∃ S', Fr S' X X' ∧ ∀ j, j ∈ S' → 3 ≤ j ∧ j < X0.heap.size ∧ (j < W.heap.size ∨ W.heap.size + 4 ≤ j)) ∧ (if go (d ++ [t]) then G (d ++ [t]) X' else Q (.inr (.inr (d ++ [t]))) X')))
    (h0 : G [] W) (T0 : Tabs W) (b0 : W.heap[bx]? = some (.cells #[.string s] 9 (0, 0))) :
    CallsIn Fence.wide 0 Tryd.prog 28 #[.func (.yield l) #[] #[], .pointer (some ⟨bx, 0, none⟩)] W fun e W' => (∃ v, e = .returned v) ∧ Q (walkT go [] (sc s 0).1 (sc s 0).2) W' := by
  refine callsIn_of_wp_marks (n := 0) Tryd.func28 rfl trivial ?_ rfl
  simp only [Tryd.ntmps28, List.size_toArray, List.length_cons, List.length_nil, Nat.reduceAdd, Nat.reduceSub, Array.replicate_succ, Array.replicate_zero, List.push_toArray, List.append_toArray, List.nil_append, List.cons_append]
  have F0 : Fr [] W (W.alloc (.cells #[.func (.yield l) #[] #[]] 49)) := (Fr.refl _ _).alloc _
  have cb := at_cells ((F0.block _ (Array.getElem?_eq_some_iff.1 b0).1 (by simp)).trans b0) 0 rfl
  gi_wp2
  have Y0 : (W.alloc (.cells #[.func (.yield l) #[] #[]] 49)).heap[W.heap.size]? = some (.cells #[.func (.yield l) #[] #[]] 49 (0, 0)) := heap_alloc_new W _
  have hs0 : (W.alloc (.cells #[.func (.yield l) #[] #[]] 49)).heap.size = W.heap.size + 1 := by simp
  clear cb
  generalize W.alloc (.cells #[.func (.yield l) #[] #[]] 49) = w0 at *
  refine ⟨trivial, rfl, (callsIn_wide.2 (tokens_any s w0)).mono ?_⟩
  rintro e w1 ⟨rfl, rfl⟩
  have F1 : Fr [] w0 (w0.alloc (.cells #[.string s] 9)) := (Fr.refl _ _).alloc _
  have B1 : (w0.alloc (.cells #[.string s] 9)).heap[w0.heap.size]? = some (.cells #[.string s] 9 (0, 0)) := heap_alloc_new w0 _
  have hs1 : (w0.alloc (.cells #[.string s] 9)).heap.size = W.heap.size + 2 := by simp [hs0]
  have Y1 := (F1.block _ (Array.getElem?_eq_some_iff.1 Y0).1 (by simp)).trans Y0
  rw [hs0] at B1 ⊢
  have G1 := F0.trans F1
  generalize w0.alloc (.cells #[.string s] 9) = w1 at *
  have HS1 : Hid (w1.heap.size = W.heap.size + 2) := hs1
  clear hs1 hs0 F0 F1 Y0
  gi_wp2
  refine range_outer (gf := 38) (lb := #[.pointer (some ⟨W.heap.size + 1, 0, none⟩)]) rfl (enters_of Tryd.func38 (by kernel_rfl) rfl) ?_
  intro rec hYr
  show CallsIn Fence.wide 0 Tryd.prog 38 #[.func (.yield (w1.heap.size + 1)) #[] #[], .pointer (some ⟨W.heap.size + 1, 0, none⟩)] _ _
  have f2 : Fr [] w1 ((w1.alloc (.deferred (some []))).alloc (.loop (rec .ready none))) := ((Fr.refl _ _).alloc _).alloc _
  have hL2 := blk2 w1 (.deferred (some [])) (.loop (rec .ready none))
  have hD2 : ((w1.alloc (.deferred (some []))).alloc (.loop (rec .ready none))).heap[w1.heap.size]? = some (.deferred (some [])) := (Below.heap_alloc _ _ _ (by simp)).trans (heap_alloc_new w1 _)
  generalize (w1.alloc (.deferred (some []))).alloc (.loop (rec .ready none)) = w2 at *
  have hD : w1.heap.size = W.heap.size + 2 := HS1.out
  rw [hD] at hL2 hD2 hYr ⊢
  have G2 := G1.trans f2
  have kp : ∀ {k o}, w1.heap[k]? = some o → w2.heap[k]? = some o := fun hk => (f2.block _ (Array.getElem?_eq_some_iff.1 hk).1 (by simp)).trans hk
  have T2 := T0.fr G2 (by simp)
  refine (tokens1 go (EG G W.heap.size l rec) (EQ G Q W.heap.size l rec) s hs (W.heap.size + 1) (W.heap.size + 2 + 1) (fun d X h => h) ?_ ?_ w2 ⟨hG _ _ _ _ h0 G2 (by simp), kp Y1, hD2, hL2⟩ T2 (kp B1)).mono ?_
  · intro d t X0 X hdl hg0 hF hT
    suffices key : ∀ R : Ending → World → Prop, (∀ e X', (e = .returned (.bool (go (d ++ [t]))) ∧ Mine (W.heap.size + 1) X0.heap.size X X' ∧ (if go (d ++ [t]) then EG G W.heap.size l rec (d ++ [t]) X' else EQ G Q W.heap.size l rec (.inr (.inr (d ++ [t]))) X')) → R e X') → YieldAt Fence.wide 0 Tryd.prog (W.heap.size + 2 + 1) #[.agg (tokA t), .int .i64 0] X R from key _ (fun _ _ h => h)
    intro R hRR
    have HRR : Hid (∀ e X', (e = .returned (.bool (go (d ++ [t]))) ∧ Mine (W.heap.size + 1) X0.heap.size X X' ∧ (if go (d ++ [t]) then EG G W.heap.size l rec (d ++ [t]) X' else EQ G Q W.heap.size l rec (.inr (.inr (d ++ [t]))) X')) → R e X') := hRR
    clear hRR
    have hl0 := (Array.getElem?_eq_some_iff.1 hg0.rd).1
    have kF : ∀ {k o}, X0.heap[k]? = some o → X.heap[k]? = some o := fun hk => (hF.block _ (Array.getElem?_eq_some_iff.1 hk).1 (by simp)).trans hk
    have yX := kF hg0.yb
    have dX := kF hg0.dfr
    have rX := kF hg0.rd
    have hYd := fun X1 S => hY d t X0 X1 S hdl (by omega) hg0.g
    clear kF
    unfold tokA at hYd ⊢
    generalize (t.kind : Int) = x0 at hYd ⊢
    generalize (⟨t.text.toArray⟩ : ByteArray) = x1 at hYd ⊢
    generalize (t.frm : Int) = x2 at hYd ⊢
    generalize (t.to : Int) = x3 at hYd ⊢
    generalize (t.n : Int) = x4 at hYd ⊢
    have HL0 : Hid (W.heap.size + 3 < X0.heap.size) := hl0
    have HD : Hid (w1.heap.size = W.heap.size + 2) := hD
    clear hl0 hD HS1
    have hOl : Hid (Oth W.heap.size X0 (W.heap.size + 2 + 1)) := ⟨by omega, fun c t z e => by have := hg0.rd; rw [e] at this; simp at this⟩
    refine hYr _ X _ rfl rX ?_
    clear hYr
    gi_wp2
    have fA : Fr [] X (X.alloc (.cells #[.int .i64 x0, .string x1, .int .i64 x2, .int .i64 x3, .int .i64 x4] 35)) := (Fr.refl _ _).alloc _
    have uA := TB.new X (.int .i64 x0) (.string x1) (.int .i64 x2) (.int .i64 x3) (.int .i64 x4)
    have kA : ∀ {k o}, X.heap[k]? = some o → (X.alloc (.cells #[.int .i64 x0, .string x1, .int .i64 x2, .int .i64 x3, .int .i64 x4] 35)).heap[k]? = some o := fun hk => (fA.block _ (Array.getElem?_eq_some_iff.1 hk).1 (by simp)).trans hk
    refine ⟨kA rX, ?_⟩
    have yA := kA yX
    have dA := kA dX
    have rA := kA rX
    have TA := hT.fr fA (by simp)
    have hCX : Hid (X0.heap.size ≤ X.heap.size) := hF.size
    clear kA yX dX rX
    generalize X.alloc (.cells #[.int .i64 x0, .string x1, .int .i64 x2, .int .i64 x3, .int .i64 x4] 35) = XA at *
    generalize hCC : X.heap.size = C at *
    have f1 := Fr.putObj (W := XA) (l := W.heap.size + 2 + 1) (.loop (rec .busy none))
    have z1 := World.putObj_heap_same (w := XA) (r := W.heap.size + 2 + 1) (o := .loop (rec .busy none)) (Array.getElem?_eq_some_iff.1 rA).1
    have y1 : (XA.putObj (W.heap.size + 2 + 1) (.loop (rec .busy none))).heap[W.heap.size]? = _ := (World.putObj_heap_other (by omega)).trans yA
    have d1 : (XA.putObj (W.heap.size + 2 + 1) (.loop (rec .busy none))).heap[W.heap.size + 2]? = _ := (World.putObj_heap_other (by omega)).trans dA
    have u1 : TB (XA.putObj (W.heap.size + 2 + 1) (.loop (rec .busy none))) C _ _ _ _ _ := uA.fr f1 (by simp; have := HL0.out; have := hCX.out; omega)
    have T1 := TA.fr f1 (fun k hk => by simp at hk; have := T0.len; omega)
    have fX1 : Fr [W.heap.size + 2 + 1] X (XA.putObj (W.heap.size + 2 + 1) (.loop (rec .busy none))) := (fA.sub (by simp)).trans f1
    have f01 : Fr [W.heap.size + 2 + 1] X0 (XA.putObj (W.heap.size + 2 + 1) (.loop (rec .busy none))) := (hF.sub (by simp)).trans fX1
    generalize XA.putObj (W.heap.size + 2 + 1) (.loop (rec .busy none)) = X1 at *
    obtain ⟨fn, tmps, assign, body, hy, hR⟩ := hYd X1 [W.heap.size + 2 + 1] f01 (fun j hj => by simp at hj; subst hj; exact hOl.out) T1
    have e0 := u1.c0
    have e1 := u1.c1
    have e2 := u1.c2
    have e3 := u1.c3
    have e4 := u1.c4
    have cy := at_cells y1 0 (u := .func (.yield l) #[] #[]) rfl
    clear f1 uA fA yA dA rA TA hYd hCC
    gi_wp2
    refine ⟨rfl, hR.mono ?_⟩
    rintro e X6 ⟨rfl, ⟨S', f6, hS6⟩, hGQ⟩
    clear hR hy e0 e1 e2 e3 e4 cy u1
    have keep : ∀ {k o}, W.heap.size ≤ k → k < W.heap.size + 4 → X1.heap[k]? = some o → X6.heap[k]? = some o := fun h1 h2 hk => (f6.block _ (Array.getElem?_eq_some_iff.1 hk).1 (fun hm => by have := (hS6 _ hm).2.2; omega)).trans hk
    have y6 := keep (by omega) (by omega) y1
    have d6 := keep (by omega) (by omega) d1
    have z6 := keep (by omega) (by omega) z1
    clear keep
    have hO6 : Oth W.heap.size X6 (W.heap.size + 2 + 1) := ⟨by omega, fun c t z e => by rw [z6] at e; simp at e⟩
    have hT3 : Hid (3 ≤ W.heap.size) := T0.len
    have mine : ∀ r, Mine (W.heap.size + 1) X0.heap.size X (X6.putObj (W.heap.size + 2 + 1) r) := fun r => ⟨(W.heap.size + 2 + 1) :: S', (fX1.sub (fun k hk => .inl (by simp at hk; simp [hk]))).trans ((f6.sub (fun k hk => .inl (by simp [hk]))).trans ((Fr.putObj r).sub (fun k hk => .inl (by simp at hk; simp [hk])))), fun j hj => by
      simp only [List.mem_cons] at hj
      have h3 := hT3.out
      have h4 := HL0.out
      rcases hj with rfl | hj
      · exact ⟨by omega, by omega, by omega⟩
      · have := hS6 j hj
        exact ⟨this.1, by omega, this.2.1⟩⟩
    have HM : Hid (∀ r, Mine (W.heap.size + 1) X0.heap.size X (X6.putObj (W.heap.size + 2 + 1) r)) := mine
    clear mine
    cases hgo : go (d ++ [t])
    · rw [hgo] at hGQ
      simp only [Bool.false_eq_true, if_false] at hGQ
      gi_wp2
      refine ⟨z6, HRR.out _ _ ⟨by rw [hgo], HM.out _, ?_⟩⟩
      rw [hgo]
      exact ⟨hQ _ _ _ _ hGQ (Fr.putObj _) (fun j hj => by simp at hj; subst hj; exact hO6), World.putObj_heap_same (Array.getElem?_eq_some_iff.1 z6).1, (World.putObj_heap_other (by omega)).trans d6⟩
    · rw [hgo] at hGQ
      simp only [if_true] at hGQ
      gi_wp2
      refine ⟨z6, HRR.out _ _ ⟨by rw [hgo], HM.out _, ?_⟩⟩
      rw [hgo]
      exact ⟨hG _ _ _ _ hGQ (Fr.putObj _) (fun j hj => by simp at hj; subst hj; exact hO6), (World.putObj_heap_other (by omega)).trans y6, (World.putObj_heap_other (by omega)).trans d6, World.putObj_heap_same (Array.getElem?_eq_some_iff.1 z6).1⟩
  · intro d p er X0 X hg0 hF hT hne
    have kF : ∀ {k o}, X0.heap[k]? = some o → X.heap[k]? = some o := fun hk => (hF.block _ (Array.getElem?_eq_some_iff.1 hk).1 (by simp)).trans hk
    have dX := kF hg0.dfr
    have rX := kF hg0.rd
    have gX := hG _ _ _ _ hg0.g hF (by simp)
    clear kF
    have hne' : ((er : Int) != 0) = true := by simp; omega
    have HD : Hid (w1.heap.size = W.heap.size + 2) := hD
    clear hD HS1 hne
    refine hYr _ X _ rfl rX ?_
    clear hYr
    gi_wp2
    have fA : Fr [] X (X.alloc (.cells #[.int .i64 0, .string ⟨#[]⟩, .int .i64 p, .int .i64 0, .int .i64 0] 35)) := (Fr.refl _ _).alloc _
    have kA : ∀ {k o}, X.heap[k]? = some o → (X.alloc (.cells #[.int .i64 0, .string ⟨#[]⟩, .int .i64 p, .int .i64 0, .int .i64 0] 35)).heap[k]? = some o := fun hk => (fA.block _ (Array.getElem?_eq_some_iff.1 hk).1 (by simp)).trans hk
    refine ⟨kA rX, ?_⟩
    have dA := kA dX
    have rA := kA rX
    have gA := hG _ _ _ _ gX fA (by simp)
    clear kA dX rX gX fA
    generalize X.alloc (.cells #[.int .i64 0, .string ⟨#[]⟩, .int .i64 p, .int .i64 0, .int .i64 0] 35) = XA at *
    have z1 := World.putObj_heap_same (w := XA) (r := W.heap.size + 2 + 1) (o := .loop (rec .busy none)) (Array.getElem?_eq_some_iff.1 rA).1
    have d1 : (XA.putObj (W.heap.size + 2 + 1) (.loop (rec .busy none))).heap[W.heap.size + 2]? = _ := (World.putObj_heap_other (by omega)).trans dA
    have g1 := hG _ _ _ _ gA (Fr.putObj (l := W.heap.size + 2 + 1) (.loop (rec .busy none))) (fun j hj => by simp at hj; subst hj; exact ⟨by omega, fun c t z e => by rw [rA] at e; simp at e⟩)
    generalize XA.putObj (W.heap.size + 2 + 1) (.loop (rec .busy none)) = X1 at *
    clear dA rA gA
    gi_wp2
    refine ⟨(fun f h => by cases h), ?_⟩
    gi_wp2
    refine ⟨z1, ⟨false, rfl⟩, ?_⟩
    have g2 := hG _ _ _ _ g1 (Fr.putObj (l := W.heap.size + 2 + 1) (.loop (rec .done (some .ret)))) (fun j hj => by simp at hj; subst hj; exact ⟨by omega, fun c t z e => by rw [z1] at e; simp at e⟩)
    exact ⟨hFa d p er _ g2, World.putObj_heap_same (Array.getElem?_eq_some_iff.1 z1).1, (World.putObj_heap_other (by omega)).trans d1⟩
  · rintro e W2 ⟨hv, hE2⟩
    refine ⟨hv, ?_⟩
    have HD : Hid (w1.heap.size = W.heap.size + 2) := hD
    clear hD HS1 hYr
    have fin : ∀ r X (pe : Option Code), Q r X → X.heap[W.heap.size + 2]? = some (.deferred (some [])) → ∀ q, X.heap[W.heap.size + 2 + 1]? = some (.loop q) → Q r ((X.putObj (W.heap.size + 2 + 1) (.loop (rec .exhausted pe))).putObj (W.heap.size + 2) (.deferred none)) ∧ (X.putObj (W.heap.size + 2 + 1) (.loop (rec .exhausted pe))).heap[W.heap.size + 2]? = some (.deferred (some [])) := fun r X pe hq hd q hl => by
      have h1 := hQ _ _ _ _ hq (Fr.putObj (l := W.heap.size + 2 + 1) (.loop (rec .exhausted pe))) (fun j hj => by simp at hj; subst hj; exact ⟨by omega, fun c t z e => by rw [hl] at e; simp at e⟩)
      have hd1 : (X.putObj (W.heap.size + 2 + 1) (.loop (rec .exhausted pe))).heap[W.heap.size + 2]? = some (.deferred (some [])) := (World.putObj_heap_other (by omega)).trans hd
      exact ⟨hQ _ _ _ _ h1 (Fr.putObj (l := W.heap.size + 2) (.deferred none)) (fun j hj => by simp at hj; subst hj; exact ⟨by omega, fun c t z e => by rw [hd1] at e; simp at e⟩), hd1⟩
    have FIN : Hid _ := fin
    clear fin
    obtain ⟨res, hres⟩ : ∃ res, walkT go [] (sc s 0).1 (sc s 0).2 = res := ⟨_, rfl⟩
    rw [hres] at hE2
    have HRS : Hid (walkT go [] (sc s 0).1 (sc s 0).2 = res) := hres
    clear hres
    rcases res with d | ⟨d, p, e⟩ | d
    · have hg : EG G W.heap.size l rec d W2 := hE2
      obtain ⟨q1, q2⟩ := FIN.out (.inl d) W2 none (hE d W2 hg.g) hg.dfr _ hg.rd
      refine .inl ⟨hg.rd, ?_⟩
      clear FIN hE2
      generalize W2.putObj (W.heap.size + 2 + 1) (.loop (rec .exhausted none)) = W3 at *
      gi_wp2
      refine ⟨by simp, .inl ⟨_, _, rfl, run_takeDeferred q2, ?_⟩⟩
      exact ⟨_, results_none rfl _ _ _, ⟨_, rfl⟩, by rw [HRS.out]; exact q1⟩
    · obtain ⟨h1, h2, h3⟩ := hE2
      obtain ⟨q1, q2⟩ := FIN.out _ W2 (some .ret) h1 h3 _ h2
      refine .inr ⟨h2, ?_⟩
      clear FIN
      generalize W2.putObj (W.heap.size + 2 + 1) (.loop (rec .exhausted (some .ret))) = W3 at *
      gi_wp2
      refine ⟨by simp, .inl ⟨_, _, rfl, run_takeDeferred q2, ?_⟩⟩
      exact ⟨_, results_none rfl _ _ _, ⟨_, rfl⟩, by rw [HRS.out]; exact q1⟩
    · obtain ⟨h1, h2, h3⟩ := hE2
      obtain ⟨q1, q2⟩ := FIN.out _ W2 (some .ret) h1 h3 _ h2
      refine .inr ⟨h2, ?_⟩
      clear FIN
      generalize W2.putObj (W.heap.size + 2 + 1) (.loop (rec .exhausted (some .ret))) = W3 at *
      gi_wp2
      refine ⟨by simp, .inl ⟨_, _, rfl, run_takeDeferred q2, ?_⟩⟩
      exact ⟨_, results_none rfl _ _ _, ⟨_, rfl⟩, by rw [HRS.out]; exact q1⟩
end Go.Proofs.YtcfhngfogclheaaDoor
