/-
  Texts of the proof, in their order: ShB, Awk, Pre; conditions: as each says.
-/
import Derived.Lib.BufferRead
import Derived.Test.YtefkcmeeagflmaaDoorMgLJPN
import Derived.Test.YtefkcmeeagflmaaDoorMgMIKK
namespace Go.Proofs.YtefkcmeeagflmaaDoor
open Go.RowKit Go.Shelf Go.Maps
attribute [local go_sem] Oper.semAt_some store_func
set_option linter.unusedVariables false
set_option linter.unusedSimpArgs false

theorem wf_small {m : Int} (h0 : 0 ≤ m) (h1 : m ≤ 1000000000) : (Lit.int .i64 m).wf = true := by
  have e1 : IntKind.min .i64 = -9223372036854775808 := by decide
  have e2 : IntKind.max .i64 = 9223372036854775807 := by decide
  simp only [Lit.wf, Bool.and_eq_true, decide_eq_true_eq, e1, e2]
  omega

theorem loop_tg {W : World} {l : Nat} {r : Loop} (h : W.heap[l]? = some (.loop r)) : ∀ k, k ∈ [l] → ∃ o, W.heap[k]? = some o ∧ tg o = true := by
  intro k hk
  simp only [List.mem_singleton] at hk
  subst hk
  exact ⟨_, h, rfl⟩
theorem loop_tt {W : World} {l : Nat} {r : Loop} (h : W.heap[l]? = some (.loop r)) : ∀ k, k ∈ [l] → ∃ o, W.heap[k]? = some o ∧ tt o = false := by
  intro k hk
  simp only [List.mem_singleton] at hk
  subst hk
  exact ⟨_, h, rfl⟩

theorem conv_row {w : World} {B c : Nat} {a : Option Addr} {l : List UInt8} (h : w.ownsRow B 5 1 (.slice a l.length c) l.length (Lib.byteCells l)) : (convert 78 9 (.slice a l.length c)).run Tryd.prog w = .ok (.string (bt l)) w := by
  rcases h.2 with ⟨e, e2⟩ | ⟨g, cap, cur, e, _, hg, _, _, _, ht⟩
  · have hl : l = [] := List.eq_nil_of_length_eq_zero e2
    subst hl
    have ha : a = none := by simp at e; exact e.1
    subst ha
    exact Lib.run_convert_nil_bytes w 78 9 5 c under78 Tryd.underlying5 under9
  · have ha : a = some ⟨g, 0, none⟩ := by simp at e; exact e.1
    subst ha
    exact run_convert_bytes_back w 78 9 5 ⟨g, 0, none⟩ c l under78 Tryd.underlying5 under9 (Lib.bytes_of_row hg (by simpa using ht))

/-- What Show's first loop keeps. -/
structure QG (Nr h kh kr mp kp l D : Nat) (rec : LoopState → Option Code → Loop) (y : (Int → Option Nat) × Nat) (W : World) : Prop where
  hp : W.heap[kh]? = some (.cells #[.pointer (some ⟨h, 0, none⟩)] 26 (0, 0))
  res : W.heap[kr]? = some (.cells #[.string ⟨#[]⟩] 9 (0, 0))
  M : PlAt W mp y
  pp : W.heap[kp]? = some (.cells #[.map (some mp)] 77 (0, 0))
  rd : W.heap[l]? = some (.loop (rec .ready none))
  dfr : W.heap[D]? = some (.deferred (some []))

theorem QG.mine {Nr h kh kr mp kp l D Ni : Nat} {rec : LoopState → Option Code → Loop} {y : (Int → Option Nat) × Nat} {W W' : World} {S : List Nat} (g : QG Nr h kh kr mp kp l D rec y W) (h1 : kh < Ni) (h2 : kr < Ni) (h3 : mp < Ni) (h4 : kp < Ni) (h5 : l < Ni) (h6 : D < Ni) (f : Fr S W W') (hS : ∀ k, k ∈ S → Mn Ni W k) : QG Nr h kh kr mp kp l D rec y W' := by
  have lo : ∀ k, k < Ni → k ∉ S := fun k hk hm => by have := (hS k hm).1; omega
  exact ⟨(f.block _ (Array.getElem?_eq_some_iff.1 g.hp).1 (lo _ h1)).trans g.hp, (f.block _ (Array.getElem?_eq_some_iff.1 g.res).1 (lo _ h2)).trans g.res, g.M.fr f (lo _ h3), (f.block _ (Array.getElem?_eq_some_iff.1 g.pp).1 (lo _ h4)).trans g.pp, (f.block _ (Array.getElem?_eq_some_iff.1 g.rd).1 (lo _ h5)).trans g.rd, (f.block _ (Array.getElem?_eq_some_iff.1 g.dfr).1 (lo _ h6)).trans g.dfr⟩

set_option maxRecDepth 100000 in
set_option maxHeartbeats 40000000 in
theorem Show_any {W : World} {Bh h : Nat} {lim used rk rn : Int} {svh : Value} {T : List Thing} (R : Rep W Bh h lim used svh rk rn T) (fT : Fine T) (hso : ∀ t, t ∈ T → (Lit.int .i64 t.sort).wf = true) (TT : Pw W)
    (xs : List (Int × Int)) (a1 : Option Addr) (n c1 : Nat) (hxn : xs.length = n) (hl : Lies W a1 xs) (hc1 : n ≤ c1) (hwx : ∀ x, x ∈ xs → (Lit.int .i64 x.2).wf = true)
    (hfew : xs.length + lft wt2 (T.map Thing.abs) [] ≤ 1000) (hfew2 : xs.length + tot (T.map Thing.abs) ≤ 1000) :
    Calls Tryd.prog 16 #[.pointer (some ⟨h, 0, none⟩), .slice a1 n c1] W fun e W' => e = .returned (.string (bt (showR (T.map Thing.abs) xs))) ∧ Fr [] W W' := by
  have hmm := @run_makeMap Tryd.prog
  obtain ⟨n0, cc, hn0, hrun⟩ := place_run (T.map Thing.abs) xs
  refine callsIn_wide.1 (callsIn_of_wp_marks (n := 0) Tryd.func16 rfl trivial ?_ rfl)
  simp only [Tryd.ntmps16, List.size_toArray, List.length_cons, List.length_nil, Nat.reduceAdd, Nat.reduceSub, Array.replicate_succ, Array.replicate_zero, List.push_toArray, List.append_toArray, List.nil_append, List.cons_append]
  gi_wp2
  have F0 : Fr [] W ((((W.alloc (.cells #[.pointer (some ⟨h, 0, none⟩)] 26)).alloc (.cells #[.string ⟨#[]⟩] 9)).alloc (.map #[] 0)).alloc (.cells #[.map (some (W.heap.size + 1 + 1))] 77)) := ((((Fr.refl _ _).alloc _).alloc _).alloc _).alloc _
  have hs0 : ((((W.alloc (.cells #[.pointer (some ⟨h, 0, none⟩)] 26)).alloc (.cells #[.string ⟨#[]⟩] 9)).alloc (.map #[] 0)).alloc (.cells #[.map (some (W.heap.size + 1 + 1))] 77)).heap.size = W.heap.size + 4 := by simp
  have A0 : ((((W.alloc (.cells #[.pointer (some ⟨h, 0, none⟩)] 26)).alloc (.cells #[.string ⟨#[]⟩] 9)).alloc (.map #[] 0)).alloc (.cells #[.map (some (W.heap.size + 1 + 1))] 77)).heap[W.heap.size]? = some (.cells #[.pointer (some ⟨h, 0, none⟩)] 26 (0, 0)) := by
    rw [Below.heap_alloc _ _ _ (by first | (simp; done) | (simp; omega)), Below.heap_alloc _ _ _ (by first | (simp; done) | (simp; omega)), Below.heap_alloc _ _ _ (by simp)]
    exact heap_alloc_new W _
  have B0 : ((((W.alloc (.cells #[.pointer (some ⟨h, 0, none⟩)] 26)).alloc (.cells #[.string ⟨#[]⟩] 9)).alloc (.map #[] 0)).alloc (.cells #[.map (some (W.heap.size + 1 + 1))] 77)).heap[W.heap.size + 1]? = some (.cells #[.string ⟨#[]⟩] 9 (0, 0)) := by
    rw [Below.heap_alloc _ _ _ (by first | (simp; done) | (simp; omega)), Below.heap_alloc _ _ _ (by simp)]
    exact blk2 W _ _
  have M0 : PlAt ((((W.alloc (.cells #[.pointer (some ⟨h, 0, none⟩)] 26)).alloc (.cells #[.string ⟨#[]⟩] 9)).alloc (.map #[] 0)).alloc (.cells #[.map (some (W.heap.size + 1 + 1))] 77)) (W.heap.size + 1 + 1) (fun _ => none, 0) := by
    refine ⟨.map [], ?_, rfl, fun k _ => ⟨rfl, rfl⟩⟩
    have := (World.ownsMap_made (H := Unit) ((W.alloc (.cells #[.pointer (some ⟨h, 0, none⟩)] 26)).alloc (.cells #[.string ⟨#[]⟩] 9)) Tryd.prog 2 (plainElem Tryd.prog 3)).alloc (.cells #[.map (some (W.heap.size + 1 + 1))] 77)
    rwa [World.size_alloc, World.size_alloc] at this
  have P0 : ((((W.alloc (.cells #[.pointer (some ⟨h, 0, none⟩)] 26)).alloc (.cells #[.string ⟨#[]⟩] 9)).alloc (.map #[] 0)).alloc (.cells #[.map (some (W.heap.size + 1 + 1))] 77)).heap[W.heap.size + 3]? = some (.cells #[.map (some (W.heap.size + 1 + 1))] 77 (0, 0)) := by
    have := heap_alloc_new (((W.alloc (.cells #[.pointer (some ⟨h, 0, none⟩)] 26)).alloc (.cells #[.string ⟨#[]⟩] 9)).alloc (.map #[] 0)) (.cells #[.map (some (W.heap.size + 1 + 1))] 77)
    simpa using this
  rw [show W.heap.size + 1 + 1 + 1 = W.heap.size + 3 from rfl]
  generalize ((((W.alloc (.cells #[.pointer (some ⟨h, 0, none⟩)] 26)).alloc (.cells #[.string ⟨#[]⟩] 9)).alloc (.map #[] 0)).alloc (.cells #[.map (some (W.heap.size + 1 + 1))] 77)) = w0 at *
  refine ⟨trivial, rfl, (callsIn_wide.2 (things_any w0 h a1 n c1)).mono ?_⟩
  rintro e w1 ⟨rfl, rfl⟩
  rw [hs0]
  have F1 : Fr [] w0 ((w0.alloc (.cells #[.pointer (some ⟨h, 0, none⟩)] 26)).alloc (.cells #[.slice a1 n c1] 23)) := ((Fr.refl _ _).alloc _).alloc _
  have H1 : ((w0.alloc (.cells #[.pointer (some ⟨h, 0, none⟩)] 26)).alloc (.cells #[.slice a1 n c1] 23)).heap[W.heap.size + 4]? = some (.cells #[.pointer (some ⟨h, 0, none⟩)] 26 (0, 0)) := by
    rw [← hs0]
    exact (Below.heap_alloc _ _ _ (by simp)).trans (heap_alloc_new w0 _)
  have L1 : ((w0.alloc (.cells #[.pointer (some ⟨h, 0, none⟩)] 26)).alloc (.cells #[.slice a1 n c1] 23)).heap[W.heap.size + 4 + 1]? = some (.cells #[.slice a1 n c1] 23 (0, 0)) := by
    rw [← hs0]
    exact blk2 w0 _ _
  have hs1 : ((w0.alloc (.cells #[.pointer (some ⟨h, 0, none⟩)] 26)).alloc (.cells #[.slice a1 n c1] 23)).heap.size = W.heap.size + 6 := by simp [hs0]
  have A1 := (F1.block _ (Array.getElem?_eq_some_iff.1 A0).1 (by simp)).trans A0
  have B1 := (F1.block _ (Array.getElem?_eq_some_iff.1 B0).1 (by simp)).trans B0
  have M1 := M0.fr F1 (by simp)
  have P1 := (F1.block _ (Array.getElem?_eq_some_iff.1 P0).1 (by simp)).trans P0
  generalize (w0.alloc (.cells #[.pointer (some ⟨h, 0, none⟩)] 26)).alloc (.cells #[.slice a1 n c1] 23) = w1 at *
  have G1 := F0.trans F1
  have HS1 : Hid (w1.heap.size = W.heap.size + 6) := hs1
  clear hs1 hs0 F0 F1 A0 B0 M0 P0
  gi_wp2
  refine range_outer (gf := 46) (lb := #[.pointer (some ⟨W.heap.size + 4 + 1, 0, none⟩), .pointer (some ⟨W.heap.size + 4, 0, none⟩)]) rfl (enters_of Tryd.func46 (by kernel_rfl) rfl) ?_
  intro rec hYr
  show CallsIn Fence.wide 0 Tryd.prog 46 #[.func (.yield (w1.heap.size + 1)) #[] #[], .pointer (some ⟨W.heap.size + 4 + 1, 0, none⟩), .pointer (some ⟨W.heap.size + 4, 0, none⟩)] _ _
  have f2 : Fr [] w1 ((w1.alloc (.deferred (some []))).alloc (.loop (rec .ready none))) := ((Fr.refl _ _).alloc _).alloc _
  have hL2 := blk2 w1 (.deferred (some [])) (.loop (rec .ready none))
  have hD2 : ((w1.alloc (.deferred (some []))).alloc (.loop (rec .ready none))).heap[w1.heap.size]? = some (.deferred (some [])) := (Below.heap_alloc _ _ _ (by simp)).trans (heap_alloc_new w1 _)
  have hs2 : ((w1.alloc (.deferred (some []))).alloc (.loop (rec .ready none))).heap.size = w1.heap.size + 2 := by simp
  generalize (w1.alloc (.deferred (some []))).alloc (.loop (rec .ready none)) = w2 at *
  have hD : w1.heap.size = W.heap.size + 6 := HS1.out
  generalize w1.heap.size = D at *
  have H2 := (f2.block _ (Array.getElem?_eq_some_iff.1 H1).1 (by simp)).trans H1
  have L2 := (f2.block _ (Array.getElem?_eq_some_iff.1 L1).1 (by simp)).trans L1
  have A2 := (f2.block _ (Array.getElem?_eq_some_iff.1 A1).1 (by simp)).trans A1
  have B2 := (f2.block _ (Array.getElem?_eq_some_iff.1 B1).1 (by simp)).trans B1
  have M2 := M1.fr f2 (by simp)
  have P2 := (f2.block _ (Array.getElem?_eq_some_iff.1 P1).1 (by simp)).trans P1
  have G2 := G1.trans f2
  clear A1 B1 M1 P1 H1 L1 G1 f2
  refine (things1 stepQ (QG W.heap.size h W.heap.size (W.heap.size + 1) (W.heap.size + 1 + 1) (W.heap.size + 3) (D + 1) D rec) (fun _ => False) R fT xs a1 n c1 hxn hl hc1 hwx w2 (W.heap.size + 4 + 1) (W.heap.size + 4) (D + 1) G2 L2 H2 (fun _ => none, 0)
    ⟨A2, B2, M2, P2, hL2, hD2⟩ (fun y => y.2) rfl (fun y k y' he => by simp only [stepQ, Option.some.injEq] at he; rw [← he]; simp only; split <;> omega) n0 (by omega)
    (fun y X X' S g f hS => g.mine (by omega) (by omega) (by omega) (by omega) (by omega) (by omega) f hS) (fun X X' S g f hS => g) ?_ (some (mt (reachR (T.map Thing.abs) xs), (idx (reachR (T.map Thing.abs) xs), (reachR (T.map Thing.abs) xs).length), cc)) hrun).mono ?_
  · intro y k X hg hy F hk
    have HD : Hid (D = W.heap.size + 6) := hD
    obtain ⟨m, hm⟩ : ∃ m : Int, ((y.2 : Nat) : Int) = m := ⟨_, rfl⟩
    have HM : Hid (((y.2 : Nat) : Int) = m) := hm
    have hm1 : (m == 100000) = false := by simp; omega
    have HW : Hid ((Lit.int .i64 m).wf = true) := wf_small (by omega) (by omega)
    have HY : Hid (y.2 < 9223372036854775807) := by unfold Hid; omega
    clear hm hy
    clear hD HS1
    refine hYr _ X _ rfl hg.rd ?_
    clear hYr
    gi_wp2
    refine ⟨hg.rd, ?_⟩
    have f1 := Fr.putObj (W := X) (l := D + 1) (.loop (rec .busy none))
    have hz1 := World.putObj_heap_same (w := X) (r := D + 1) (o := .loop (rec .busy none)) (Array.getElem?_eq_some_iff.1 hg.rd).1
    have ot : ∀ {k : Nat}, k ≠ D + 1 → (X.putObj (D + 1) (.loop (rec .busy none))).heap[k]? = X.heap[k]? := fun hk => World.putObj_heap_other hk
    have M1 := hg.M.fr f1 (by have := HD.out; simp; omega)
    have hp1 := (ot (by have := HD.out; omega)).trans hg.pp
    have ha1 := (ot (by have := HD.out; omega)).trans hg.hp
    have hb1 := (ot (by have := HD.out; omega)).trans hg.res
    have hd1 := (ot (by omega)).trans hg.dfr
    clear ot
    generalize X.putObj (D + 1) (.loop (rec .busy none)) = X1 at *
    have ca := at_cells hp1 0 rfl
    obtain ⟨DD, hown, hsz, hDD⟩ := M1
    have hlen := hown.len (t := 77) (e := 3) under77 3
    rw [hsz, HM.out] at hlen
    gi_wp2_with (gi_at_mapUpdate; refine wpListIn_mapUpdate_own _ rfl _ _ _ 77 rfl 2 3 law2 under77 _ (W.heap.size + 1 + 1) y.2 DD rfl hown HY.out _ _ _ rfl rfl (keyOf_int_mk Tryd.underlying2 hk) _ [] (plainElem_int Tryd.underlying3 HW.out) ?_)
    intro X5 hown5 hg5
    rw [← HM.out] at hown5
    obtain ⟨y', hy', M5⟩ := PlAt.put hown hsz hDD hk hown5
    have f5 : Fr [W.heap.size + 1 + 1] X1 X5 := Fr.ofGrown hg5
    have keep5 : ∀ {k : Nat} {o : Obj}, X1.heap[k]? = some o → k ≠ W.heap.size + 1 + 1 → X5.heap[k]? = some o := fun hk ho => (f5.block _ (Array.getElem?_eq_some_iff.1 hk).1 (by simpa using ho)).trans hk
    have hp5 := keep5 hp1 (by omega)
    have ha5 := keep5 ha1 (by omega)
    have hb5 := keep5 hb1 (by omega)
    have hd5 := keep5 hd1 (by have := HD.out; omega)
    have hz5 := keep5 hz1 (by have := HD.out; omega)
    clear hlen hown hown5 hg5 ca
    gi_wp2
    refine ⟨hz5, ⟨[D + 1, W.heap.size + 1 + 1], ?_, ?_⟩, ?_⟩
    · exact ((f1.sub (fun k hk => .inl (by simp at hk; simp [hk]))).trans (f5.sub (fun k hk => .inl (by simp at hk; simp [hk])))).trans ((Fr.putObj _).sub (fun k hk => .inl (by simp at hk; simp [hk])))
    · intro j hj
      have := HD.out
      simp only [List.mem_cons, List.not_mem_nil, or_false] at hj
      rcases hj with rfl | rfl
      · exact ⟨by omega, by omega, .inl (by omega)⟩
      · exact ⟨by omega, by omega, .inl (by omega)⟩
    · rw [hy']
      have := HD.out
      exact ⟨rfl, (World.putObj_heap_other (by omega)).trans ha5, (World.putObj_heap_other (by omega)).trans hb5, M5.fr (Fr.putObj _) (by simp; omega), (World.putObj_heap_other (by omega)).trans hp5, World.putObj_heap_same (Array.getElem?_eq_some_iff.1 hz5).1, (World.putObj_heap_other (by omega)).trans hd5⟩
  · rintro e W2 ⟨hv, hF, hE⟩
    have HD : Hid (D = W.heap.size + 6) := hD
    clear hD HS1
    have hG : QG W.heap.size h W.heap.size (W.heap.size + 1) (W.heap.size + 1 + 1) (W.heap.size + 3) (D + 1) D rec (idx (reachR (T.map Thing.abs) xs), (reachR (T.map Thing.abs) xs).length) W2 := hE
    refine ⟨hv, .inl ⟨hG.rd, ?_⟩⟩
    have ot : ∀ {k : Nat}, k ≠ D + 1 → (W2.putObj (D + 1) (.loop (rec .exhausted none))).heap[k]? = W2.heap[k]? := fun hk => World.putObj_heap_other hk
    have M3 := hG.M.fr (Fr.putObj (l := D + 1) (.loop (rec .exhausted none))) (by have := HD.out; simp; omega)
    have hp3 := (ot (by have := HD.out; omega)).trans hG.pp
    have ha3 := (ot (by have := HD.out; omega)).trans hG.hp
    have hb3 := (ot (by have := HD.out; omega)).trans hG.res
    have hd3 := (ot (by omega)).trans hG.dfr
    have F3 : Fr [] W (W2.putObj (D + 1) (.loop (rec .exhausted none))) := ((hF.sub (T := [D + 1]) (by simp)).trans (Fr.putObj _)).sub (fun k hk => .inr (by have := HD.out; simp at hk; omega))
    have hDl := (Array.getElem?_eq_some_iff.1 hG.rd).1
    have hs3 : D + 1 < (W2.putObj (D + 1) (.loop (rec .exhausted none))).heap.size := by simpa using hDl
    clear ot
    generalize W2.putObj (D + 1) (.loop (rec .exhausted none)) = w3 at *
    clear hE hG hF hYr hrun
    gi_wp2
    have f4 : Fr [] w3 ((w3.alloc (.cells #[.slice none 0 0] 78)).alloc (.cells #[.int .i64 0] 3)) := ((Fr.refl _ _).alloc _).alloc _
    have T4 : ((w3.alloc (.cells #[.slice none 0 0] 78)).alloc (.cells #[.int .i64 0] 3)).heap[w3.heap.size]? = some (.cells #[.slice none 0 0] 78 (0, 0)) := (Below.heap_alloc _ _ _ (by simp)).trans (heap_alloc_new w3 _)
    have N4 := blk2 w3 (.cells #[.slice none 0 0] 78) (.cells #[.int .i64 0] 3)
    have hs4 : ((w3.alloc (.cells #[.slice none 0 0] 78)).alloc (.cells #[.int .i64 0] 3)).heap.size = w3.heap.size + 2 := by simp
    generalize (w3.alloc (.cells #[.slice none 0 0] 78)).alloc (.cells #[.int .i64 0] 3) = w4 at *
    refine ⟨trivial, rfl, (callsIn_wide.2 (waitingT w4 W.heap.size (by have := F3.size; have := f4.size; omega))).mono ?_⟩
    rintro e w5 ⟨rfl, rfl, K5⟩
    rw [hs4] at K5 ⊢
    have f5 : Fr [] w4 (w4.alloc (.cells #[.slice none 0 0] 121)) := (Fr.refl _ _).alloc _
    have T5 := (f5.block _ (Array.getElem?_eq_some_iff.1 T4).1 (by simp)).trans T4
    have N5 := (f5.block _ (Array.getElem?_eq_some_iff.1 N4).1 (by simp)).trans N4
    have hs5 : (w4.alloc (.cells #[.slice none 0 0] 121)).heap.size = w3.heap.size + 3 := by simp [hs4]
    generalize w4.alloc (.cells #[.slice none 0 0] 121) = w5 at *
    have g5 := f4.trans f5
    obtain ⟨ks, hks⟩ : ∃ k, w3.heap.size = k := ⟨_, rfl⟩
    have M5 := M3.fr g5 (by simp)
    have hp5 := (g5.block _ (Array.getElem?_eq_some_iff.1 hp3).1 (by simp)).trans hp3
    have ha5 := (g5.block _ (Array.getElem?_eq_some_iff.1 ha3).1 (by simp)).trans ha3
    have hb5 := (g5.block _ (Array.getElem?_eq_some_iff.1 hb3).1 (by simp)).trans hb3
    have hd5 := (g5.block _ (Array.getElem?_eq_some_iff.1 hd3).1 (by simp)).trans hd3
    have F5 := F3.trans g5
    rw [hks] at T5 N5 K5 hs5 ⊢
    have HK : Hid (D + 1 < ks) := by unfold Hid; omega
    clear M3 hp3 ha3 hb3 hd3 f4 f5 T4 N4 g5 hs4 F3 hs3
    have HS5 : Hid (w5.heap.size = ks + 3) := hs5
    clear hs5 hks
    gi_wp2
    have f6 : Fr [] w5 (w5.alloc (.cells #[.func (.func 49) #[] #[.pointer (some ⟨ks + 2, 0, none⟩)]] 79)) := (Fr.refl _ _).alloc _
    have A6 : (w5.alloc (.cells #[.func (.func 49) #[] #[.pointer (some ⟨ks + 2, 0, none⟩)]] 79)).heap[w5.heap.size]? = some (.cells #[.func (.func 49) #[] #[.pointer (some ⟨ks + 2, 0, none⟩)]] 79 (0, 0)) := heap_alloc_new w5 _
    rw [HS5.out] at A6 ⊢
    have T6 := (f6.block _ (Array.getElem?_eq_some_iff.1 T5).1 (by simp)).trans T5
    have N6 := (f6.block _ (Array.getElem?_eq_some_iff.1 N5).1 (by simp)).trans N5
    have K6 := K5.frame f6
    have M6 := M5.fr f6 (by simp)
    have hp6 := (f6.block _ (Array.getElem?_eq_some_iff.1 hp5).1 (by simp)).trans hp5
    have ha6 := (f6.block _ (Array.getElem?_eq_some_iff.1 ha5).1 (by simp)).trans ha5
    have hb6 := (f6.block _ (Array.getElem?_eq_some_iff.1 hb5).1 (by simp)).trans hb5
    have hd6 := (f6.block _ (Array.getElem?_eq_some_iff.1 hd5).1 (by simp)).trans hd5
    have F6 := F5.trans f6
    generalize w5.alloc (.cells #[.func (.func 49) #[] #[.pointer (some ⟨ks + 2, 0, none⟩)]] 79) = w6 at *
    have ca6 := at_cells A6 0 rfl
    have HX : Hid (xs.length = n) := hxn
    have hn6 : (n : Int) ≤ 1000000 := by omega
    clear T5 N5 K5 M5 hp5 ha5 hb5 hd5 F5 f6 hxn
    refine wpIn_mono (Q := NoPanic _) ?_ NoPanic.imp
    gi_region_with (first
      | (refine ⟨trivial, rfl, ?_⟩; gi_at_call 31; refine (callsIn_wide.2 (pieces_any _ ⟨#[]⟩ ⟨#[]⟩ xs n HX.out a1 c1 ((hl.fr F6 (by simp)).fr (Fr.drew (Fr.refl [] _)) (by simp)) hn6)).mono ?_; rintro e w7 ⟨v, rfl, g7', ho7⟩; have g7 : Fr [] w6 w7 := (Fr.drew (Fr.refl [] w6)).trans g7'; have K7 := K6.frame g7; have ca7 := g7.cell1 ca6 (by simp))
      | (refine ⟨trivial, rfl, ?_⟩; gi_at_call 49; refine (callsIn_wide.2 (addT_own (more := tolds ⟨#[]⟩ xs ++ [bare ⟨#[]⟩]) K7 (by simp only [List.length_append, List.length_singleton, tolds_length, HX.out]; exact ho7) (pieces_ok xs _ _ (by decide) (by decide) hwx) (by simp))).mono ?_; rintro e w8 ⟨rfl, sv8, L8, K8, p8, l8, g8, r8⟩))
    all_goals
      refine NoPanic.normal ?_
      have keep8 : ∀ {k : Nat} {o : Obj}, w6.heap[k]? = some o → (∀ c z, o ≠ .cells c 121 z) → (∀ c z, o ≠ .cells c 86 z) → w8.heap[k]? = some o := fun hk h1 h2 => by
        have hk7 := (g7.block _ (Array.getElem?_eq_some_iff.1 hk).1 (by simp)).trans hk
        exact (g8.block _ (Array.getElem?_eq_some_iff.1 hk7).1 (K7.far hk7 h1 h2)).trans hk7
      have T8 := keep8 T6 (by simp) (by simp)
      have N8 := keep8 N6 (by simp) (by simp)
      have A8 := keep8 A6 (by simp) (by simp)
      have hp8 := keep8 hp6 (by simp) (by simp)
      have ha8 := keep8 ha6 (by simp) (by simp)
      have hb8 := keep8 hb6 (by simp) (by simp)
      have hd8 := keep8 hd6 (by simp) (by simp)
      obtain ⟨es6, cl6, hm6⟩ := M6.map
      have hm7 := (g7.block _ (Array.getElem?_eq_some_iff.1 hm6).1 (by simp)).trans hm6
      have M8 := (M6.fr g7 (by simp)).fr g8 (K7.far hm7 (by simp) (by simp))
      have pend8 : pend L8 = tolds (bt []) xs ++ [bare (bt [])] := by rw [p8]; simp [pend]; exact ⟨rfl, rfl⟩
      have F8 : Fr [] W w8 := (((F6.trans g7).sub (T := [ks + 2]) (by simp)).trans (g8.sub (fun k hk => .inl (by simpa [Value.ownBlock] using hk)))).sub (fun k hk => .inr (by have := HK.out; have := HD.out; simp at hk; omega))
      have r8' : ∀ t, t ∈ L8 → in85 w8 t.g := fun t ht => by
        rcases r8 t ht with h1 | h1
        · simp at h1
        · exact h1.fr g8 (fun k hk => (stk_tg K7 k hk).1)
      clear keep8 hm6 hm7 g7' g7 g8 ho7 K7 ca6 ca7 p8 r8 T6 N6 A6 hp6 ha6 hb6 hd6 M6 F6 K6
      gi_wp2
      obtain ⟨n1, c1', hn1, hrun⟩ := show_run (T.map Thing.abs) xs
      refine range_outer (gf := 50) (lb := #[.pointer (some ⟨ks + 2, 0, none⟩)]) rfl (enters_of Tryd.func50 (by kernel_rfl) rfl) ?_
      intro rec hYr
      show CallsIn Fence.wide 0 Tryd.prog 50 #[.func (.yield (w8.heap.size + 1)) #[] #[], .pointer (some ⟨ks + 2, 0, none⟩)] _ _
      have f9 : Fr [] w8 ((w8.alloc (.deferred (some []))).alloc (.loop (rec .ready none))) := ((Fr.refl _ _).alloc _).alloc _
      have hL9 := blk2 w8 (.deferred (some [])) (.loop (rec .ready none))
      have hD9 : ((w8.alloc (.deferred (some []))).alloc (.loop (rec .ready none))).heap[w8.heap.size]? = some (.deferred (some [])) := (Below.heap_alloc _ _ _ (by simp)).trans (heap_alloc_new w8 _)
      have K9 := K8.frame f9
      have r9 : ∀ t, t ∈ L8 → in85 ((w8.alloc (.deferred (some []))).alloc (.loop (rec .ready none))) t.g := fun t ht => (r8' t ht).fr f9 (by simp)
      have G9 : WG0 W h W.heap.size (W.heap.size + 1) (W.heap.size + 1 + 1) (W.heap.size + 3) (ks + 3) (ks + 2) D w8.heap.size (reachR (T.map Thing.abs) xs) ((w8.alloc (.deferred (some []))).alloc (.loop (rec .ready none))) :=
        ⟨F8.trans f9, (f9.block _ (Array.getElem?_eq_some_iff.1 ha8).1 (by simp)).trans ha8, (f9.block _ (Array.getElem?_eq_some_iff.1 hb8).1 (by simp)).trans hb8, M8.fr f9 (by simp), (f9.block _ (Array.getElem?_eq_some_iff.1 hp8).1 (by simp)).trans hp8, (f9.block _ (Array.getElem?_eq_some_iff.1 A8).1 (by simp)).trans A8, (f9.block _ (Array.getElem?_eq_some_iff.1 hd8).1 (by simp)).trans hd8, hD9⟩
      have X9 : WT W.heap.size ks (ks + 1) ([], 0, 0) ((w8.alloc (.deferred (some []))).alloc (.loop (rec .ready none))) :=
        ⟨⟨_, (f9.block _ (Array.getElem?_eq_some_iff.1 T8).1 (by simp)).trans T8, World.ownsRow_nil _ _ _ _⟩, (f9.block _ (Array.getElem?_eq_some_iff.1 N8).1 (by simp)).trans N8, by simp, by simp⟩
      generalize (w8.alloc (.deferred (some []))).alloc (.loop (rec .ready none)) = w9 at *
      have hD2l : D + 1 < w8.heap.size := by have := (Array.getElem?_eq_some_iff.1 A8).1; have := HK.out; omega
      generalize w8.heap.size = D2 at *
      refine (allR (stepW (T.map Thing.abs) (reachR (T.map Thing.abs) xs)) (fun s W' => WG0 W h W.heap.size (W.heap.size + 1) (W.heap.size + 1 + 1) (W.heap.size + 3) (ks + 3) (ks + 2) D D2 (reachR (T.map Thing.abs) xs) W' ∧ WT W.heap.size ks (ks + 1) s W')
        (fun _ => False) (fun W' => W'.heap[D2 + 1]? = some (.loop (rec .ready none))) in85 (D2 + 1) W.heap.size (ks + 2) (fun sv L X Y g hg hk hf => hg.fr hf (fun k hk' => (stk_tg hk k hk').1)) (fun s => s.2.2) n1 (stepW_cnt _ _)
        (fun s sv L X Y hg hk hf => ⟨hg.1.fr hf (fun k hk' => (stk_tg hk k hk').1) (fun k hk' => (stk_tg hk k hk').2.2), hg.2.fr hf (fun k hk' => (stk_tg hk k hk').2.1)⟩) (fun sv L X Y hr hk hf => (hf.block _ (Array.getElem?_eq_some_iff.1 hr).1 (hk.far hr (by simp) (by simp))).trans hr)
        ?_ w9 ([], 0, 0) sv8 L8 ⟨G9, X9⟩ hL9 K9 n1 (some (showR (T.map Thing.abs) xs, (reachR (T.map Thing.abs) xs).length, c1')) (by rw [pend8]; exact hrun) (by simp) (by simpa using l8) r9).mono ?_
      · intro s x X sv L hg hr hk hc hlL hrg hx
        obtain ⟨x0, x1, x2, x3, rfl, hx3, hx0⟩ := hx
        obtain ⟨t, m, cn⟩ := s
        obtain ⟨hg0, hgt⟩ := hg
        refine hYr _ X _ rfl hr ?_
        clear hYr
        gi_wp2
        have fX : Fr [] X (X.alloc (.cells #[.string x0, .bool x1, .int .i64 x2, .int .i64 x3] 85)) := (Fr.refl _ _).alloc _
        have hr1 := (fX.block _ (Array.getElem?_eq_some_iff.1 hr).1 (by simp)).trans hr
        have hp1 : (X.alloc (.cells #[.string x0, .bool x1, .int .i64 x2, .int .i64 x3] 85)).heap[X.heap.size]? = some (.cells #[.string x0, .bool x1, .int .i64 x2, .int .i64 x3] 85 (0, 0)) := heap_alloc_new X _
        refine ⟨hr1, ?_⟩
        have hD2W : W.heap.size ≤ D2 + 1 := by have := HD.out; omega
        have RB1 : RB W h W.heap.size (W.heap.size + 1) (W.heap.size + 1 + 1) (W.heap.size + 3) (ks + 3) (ks + 2) D D2 (reachR (T.map Thing.abs) xs) W.heap.size sv L (D2 + 1) X.heap.size (rec .busy none) x0 x1 x2 x3 ((X.alloc (.cells #[.string x0, .bool x1, .int .i64 x2, .int .i64 x3] 85)).putObj (D2 + 1) (.loop (rec .busy none))) :=
          ⟨(hg0.fr fX (by simp) (by simp)).fr (Fr.putObj _) (loop_tg hr1) (fun k hk => by simp at hk; omega), (hk.frame fX).putObj okT_ne hr1 _, fun t ht => ((hrg t ht).fr fX (by simp)).fr (Fr.putObj _) (loop_tg hr1), World.putObj_heap_same (Array.getElem?_eq_some_iff.1 hr1).1, (World.putObj_heap_other (by have := (Array.getElem?_eq_some_iff.1 hr).1; omega)).trans hp1⟩
        have WT1 : WT W.heap.size ks (ks + 1) (t, m, cn) ((X.alloc (.cells #[.string x0, .bool x1, .int .i64 x2, .int .i64 x3] 85)).putObj (D2 + 1) (.loop (rec .busy none))) := (hgt.fr fX (by simp)).fr (Fr.putObj _) (loop_tt hr1)
        generalize (X.alloc (.cells #[.string x0, .bool x1, .int .i64 x2, .int .i64 x3] 85)).putObj (D2 + 1) (.loop (rec .busy none)) = X1 at *
        generalize X.heap.size = kq at *
        clear hr1 hp1 hk hg0 hgt hr fX hrg
        obtain ⟨⟨svt, ht1, ht2⟩, hsh, htl, hmc⟩ := WT1
        simp only at ht2 hsh htl hmc hc hlL
        -- a round's end
        have fin : ∀ (X' : World) (a' : Act) (s' : List UInt8 × Nat × Nat), RB W h W.heap.size (W.heap.size + 1) (W.heap.size + 1 + 1) (W.heap.size + 3) (ks + 3) (ks + 2) D D2 (reachR (T.map Thing.abs) xs) W.heap.size sv L (D2 + 1) kq (rec .busy none) x0 x1 x2 x3 X' → WT W.heap.size ks (ks + 1) s' X' → stepW (T.map Thing.abs) (reachR (T.map Thing.abs) xs) (t, m, cn) [.string x0, .bool x1, .int .i64 x2, .int .i64 x3] = some (s', []) →
            RoundEnd (D2 + 1) rec (RoundedR 121 86 okT W.heap.size (ks + 2) in85 (fun s W' => WG0 W h W.heap.size (W.heap.size + 1) (W.heap.size + 1 + 1) (W.heap.size + 3) (ks + 3) (ks + 2) D D2 (reachR (T.map Thing.abs) xs) W' ∧ WT W.heap.size ks (ks + 1) s W')
              (fun W' => W'.heap[D2 + 1]? = some (.loop (rec .ready none))) (fun _ => False) (pend L) L.length (stepW (T.map Thing.abs) (reachR (T.map Thing.abs) xs) (t, m, cn) [.string x0, .bool x1, .int .i64 x2, .int .i64 x3])) .normal a' X' := by
          intro X' a' s' rb wt hst
          refine ⟨rb.bz, ?_⟩
          rw [hst]
          exact ⟨rfl, ⟨rb.g.fr (Fr.putObj _) (loop_tg rb.bz) (fun k hk => by simp at hk; omega), wt.fr (Fr.putObj _) (loop_tt rb.bz)⟩, World.putObj_heap_same (Array.getElem?_eq_some_iff.1 rb.bz).1, sv, L, rb.k.putObj okT_ne rb.bz _, by simp, by omega, fun t ht => (rb.rg t ht).fr (Fr.putObj _) (loop_tg rb.bz)⟩
        have hsz1 : W.heap.size ≤ X1.heap.size := RB1.g.F.size
        have hmx1 : t.length + x0.size ≤ maxLen := by have : maxLen = 9223372036854775807 := rfl; omega
        have hby1 : t.length + x0.size ≤ 140737488355328 := by omega
        obtain ⟨i5, hi5, hz5, hs5, hb5⟩ := info_parts info5
        have ct1 := at_cells ht1 0 rfl
        have zt1 : X1.frozen? ⟨ks, 0, none⟩ = false := by simp [World.frozen?, ht1]
        have q0 := at_cells RB1.pq 0 (u := .string x0) rfl
        gi_wp2_with (gi_at_builtin; refine wpListIn_append_str _ rfl _ _ 78 9 rfl W.heap.size 5 i5 under78 under9 hi5 hz5 hs5 hb5 svt t.length (Lib.byteCells t) rfl ht2 x0 rfl hmx1 hby1 hsz1 ?_)
        intro v1 Y1 ho1 hg1
        have fY : Fr svt.ownBlock.toList X1 Y1 := (Fr.ofGrown hg1)
        have RBY := RB1.fr fY (own_tt ht2)
        have htY : Y1.heap[ks]? = some (.cells #[svt] 78 (0, 0)) := (fY.block _ (Array.getElem?_eq_some_iff.1 ht1).1 (by simp only [Option.mem_toList]; exact own_ne ht2 ht1 (by decide))).trans ht1
        have hsY : Y1.heap[ks + 1]? = some (.cells #[.int .i64 (m : Nat)] 3 (0, 0)) := (fY.block _ (Array.getElem?_eq_some_iff.1 hsh).1 (by simp only [Option.mem_toList]; exact own_ne ht2 hsh (by decide))).trans hsh
        have htx : (t ++ x0.data.toList).length = t.length + x0.size := by rw [List.length_append]; rfl
        have ho2 : Y1.ownsRow W.heap.size 5 1 v1 (t ++ x0.data.toList).length (Lib.byteCells (t ++ x0.data.toList)) := by
          rw [htx]
          have e : Lib.byteCells (t ++ x0.data.toList) = Lib.byteCells t ++ Lib.strCells x0 := by simp [Lib.byteCells, Lib.strCells]
          rw [e]
          exact ho1
        obtain ⟨hu1, hu2⟩ := txt_put htY ho2
        have fZ : Fr [ks] Y1 (Y1.setCell ⟨ks, 0, none⟩ v1) := Fr.setCell (Fr.refl _ _) (.inl (by simp)) _
        have hkW : W.heap.size ≤ ks := by have := HK.out; have := HD.out; omega
        have RB2 := RBY.fr fZ (fun k hk => by simp only [List.mem_singleton] at hk; subst hk; exact ⟨⟨_, htY, rfl⟩, hkW⟩)
        have hs2 : (Y1.setCell ⟨ks, 0, none⟩ v1).heap[ks + 1]? = some (.cells #[.int .i64 (m : Nat)] 3 (0, 0)) := (fZ.block _ (Array.getElem?_eq_some_iff.1 hsY).1 (by simp)).trans hsY
        have ctY := at_cells htY 0 rfl
        have ztY : Y1.frozen? ⟨ks, 0, none⟩ = false := by simp [World.frozen?, htY]
        obtain ⟨av, cv, hv1, _⟩ := own_slice ho1
        subst hv1
        have q1 := at_cells RB2.pq 1 (u := .bool x1) rfl
        have q2 := at_cells RB2.pq 2 (u := .int .i64 x2) rfl
        have q3 := at_cells RB2.pq 3 (u := .int .i64 x3) rfl
        have qm := at_cells RB2.g.pp 0 rfl
        have HT : Hid (t.length + x0.size ≤ 200 * cn + 100) := by unfold Hid; omega
        clear hg1 ho1 RB1 RBY q0 ct1 zt1 ht1 ht2 hsh htx hmx1 hby1 ho2 fY fZ hsY hsz1
        cases x1 with
        | false =>
          gi_wp2
          refine fin _ _ (t ++ x0.data.toList, m, cn + 1) RB2 ⟨⟨_, hu1, hu2⟩, hs2, ?_, by simp; omega⟩ ?_
          · have := HT.out
            simp only [List.length_append]
            show t.length + x0.size ≤ _
            omega
          · unfold stepW
            simp [decT]
        | true =>
          have htx : (t ++ x0.data.toList).length = t.length + x0.size := by rw [List.length_append]; rfl
          rw [htx] at hu2
          obtain ⟨DD, hown, hszD, hDD⟩ := RB2.g.M
          obtain ⟨d1, e1⟩ := hDD x3 hx3
          simp only at hown d1 e1
          have HPL : thgs (T.map Thing.abs) (reachR (T.map Thing.abs) xs) := lst_thgs (val_thgs _ _) _ _ _ (fun i hi => by simp at hi)
          have hcase : (plc (reachR (T.map Thing.abs) xs) (x2, x3) = none ∧ ((x2 != 2) = true ∨ (x2 = 2 ∧ idx (reachR (T.map Thing.abs) xs) x3 = none))) ∨ ∃ k, x2 = 2 ∧ idx (reachR (T.map Thing.abs) xs) x3 = some k := by
            unfold plc
            by_cases h2 : x2 = 2
            · cases hix : idx (reachR (T.map Thing.abs) xs) x3 with
              | none => left; exact ⟨by simp [h2, hix], .inr ⟨h2, rfl⟩⟩
              | some k => right; exact ⟨k, h2, rfl⟩
            · left; exact ⟨by simp [h2], .inl (by simpa using h2)⟩
          rcases hcase with ⟨hpn, h2 | ⟨h2, hix⟩⟩ | ⟨k, h2, hix⟩
          · have hst : stepW (T.map Thing.abs) (reachR (T.map Thing.abs) xs) (t, m, cn) [.string x0, .bool true, .int .i64 x2, .int .i64 x3] = some ((t ++ x0.data.toList ++ plainB (x2, x3), m, cn + 1), []) := by
              unfold stepW
              simp [decT, hpn]
            gi_wp2_with (gi_at_lookup; refine wpListIn_lookup_own_ok_int _ rfl _ _ 77 rfl 2 3 .i64 law2 under77 Tryd.underlying3 (zero3 _) (W.heap.size + 1 + 1) _ DD rfl hown _ _ rfl (keyOf_int_mk Tryd.underlying2 hx3) ?_; intro c1 hc1 _; rw [e1] at hc1; simp at hc1; subst hc1; rw [d1])
            clear hown hDD hszD d1 e1 qm q1 htY ctY ztY
            generalize Y1.setCell ⟨ks, 0, none⟩ (.slice av (t.length + x0.size) cv) = Y2 at *
            have hpb : (plainB (x2, x3)).length ≤ 21 := by
              unfold plainB
              split
              · exact itoa_len hx3
              · split <;> simp
            refine reg17 (TT.fr RB2.g.F (by simp)) hx3 RB2.pq (t.length + x0.size) htx hu1 hu2 RB2.g.F.size (by have := HT.out; omega) ?_
            intro a' Z v3 Z3 fz f3 hz3 ho3
            have hz2 := own_fr hu2 fz (by simp)
            have RB3 := (RB2.fr fz (by simp)).fr f3 (own_tt hz2)
            obtain ⟨hw1, hw2⟩ := txt_put hz3 ho3
            have RB4 := RB3.fr (set_fr Z3 ks v3) (set_tt hz3 rfl hkW)
            have hsz := (fz.block _ (Array.getElem?_eq_some_iff.1 hs2).1 (by simp)).trans hs2
            have hs3 := (f3.block _ (Array.getElem?_eq_some_iff.1 hsz).1 (by simp only [Option.mem_toList]; exact own_ne hz2 hsz (by decide))).trans hsz
            have hs4 := ((set_fr Z3 ks v3).block _ (Array.getElem?_eq_some_iff.1 hs3).1 (by simp)).trans hs3
            gi_wp2
            refine fin _ _ _ RB4 ⟨⟨_, hw1, hw2⟩, hs4, ?_, by simp; omega⟩ hst
            have := HT.out
            simp only [List.length_append] at htx ⊢
            omega
          · have hst : stepW (T.map Thing.abs) (reachR (T.map Thing.abs) xs) (t, m, cn) [.string x0, .bool true, .int .i64 x2, .int .i64 x3] = some ((t ++ x0.data.toList ++ plainB (x2, x3), m, cn + 1), []) := by
              unfold stepW
              simp [decT, hpn]
            rw [hix] at d1 e1
            simp only [Option.isSome_none] at d1
            have h2' : (x2 != 2) = false := by simpa using h2
            gi_wp2_with (gi_at_lookup; refine wpListIn_lookup_own_ok_int _ rfl _ _ 77 rfl 2 3 .i64 law2 under77 Tryd.underlying3 (zero3 _) (W.heap.size + 1 + 1) _ DD rfl hown _ _ rfl (keyOf_int_mk Tryd.underlying2 hx3) ?_; intro c1 hc1 _; rw [e1] at hc1; simp at hc1; subst hc1; rw [d1])
            clear hown hDD hszD d1 e1 qm q1 htY ctY ztY
            generalize Y1.setCell ⟨ks, 0, none⟩ (.slice av (t.length + x0.size) cv) = Y2 at *
            have hpb : (plainB (x2, x3)).length ≤ 21 := by
              unfold plainB
              split
              · exact itoa_len hx3
              · split <;> simp
            refine reg17 (TT.fr RB2.g.F (by simp)) hx3 RB2.pq (t.length + x0.size) htx hu1 hu2 RB2.g.F.size (by have := HT.out; omega) ?_
            intro a' Z v3 Z3 fz f3 hz3 ho3
            have hz2 := own_fr hu2 fz (by simp)
            have RB3 := (RB2.fr fz (by simp)).fr f3 (own_tt hz2)
            obtain ⟨hw1, hw2⟩ := txt_put hz3 ho3
            have RB4 := RB3.fr (set_fr Z3 ks v3) (set_tt hz3 rfl hkW)
            have hsz := (fz.block _ (Array.getElem?_eq_some_iff.1 hs2).1 (by simp)).trans hs2
            have hs3 := (f3.block _ (Array.getElem?_eq_some_iff.1 hsz).1 (by simp only [Option.mem_toList]; exact own_ne hz2 hsz (by decide))).trans hsz
            have hs4 := ((set_fr Z3 ks v3).block _ (Array.getElem?_eq_some_iff.1 hs3).1 (by simp)).trans hs3
            gi_wp2
            refine fin _ _ _ RB4 ⟨⟨_, hw1, hw2⟩, hs4, ?_, by simp; omega⟩ hst
            have := HT.out
            simp only [List.length_append] at htx ⊢
            omega
          · have hmem : x3 ∈ reachR (T.map Thing.abs) xs := by
              have := idx_at hix
              exact List.mem_of_getElem? this
            obtain ⟨ao, hao⟩ := HPL x3 hmem
            have hkb := (List.getElem?_eq_some_iff.1 (idx_at hix)).1
            rw [hix] at d1 e1
            simp only [Option.isSome_some] at d1
            subst h2
            have HTX : Hid ((t ++ x0.data.toList).length = t.length + x0.size) := htx
            have hN1 : t.length + x0.size + 1 ≤ maxLen := by have : maxLen = 9223372036854775807 := rfl; have := HT.out; omega
            have hN2 : (t.length + x0.size + 1) * 1 ≤ 140737488355328 := by have := HT.out; omega
            have hzW := RB2.g.F.size
            have ct2 := at_cells hu1 0 rfl
            have zt2 : (Y1.setCell ⟨ks, 0, none⟩ (.slice av (t.length + x0.size) cv)).frozen? ⟨ks, 0, none⟩ = false := by simp [World.frozen?, hu1]
            clear htx
            gi_wp2_with (first | (gi_at_lookup; refine wpListIn_lookup_own_ok_int _ rfl _ _ 77 rfl 2 3 .i64 law2 under77 Tryd.underlying3 (zero3 _) (W.heap.size + 1 + 1) _ DD rfl hown _ _ rfl (keyOf_int_mk Tryd.underlying2 hx3) ?_; intro c1 hc1 _; rw [e1] at hc1; simp at hc1; subst hc1; rw [d1]) | (gi_at_builtin; generalize hGG : wpListIn _ _ _ _ _ _ _ _ = GG))
            rw [← hGG]
            have hyy : Y1.heap.size = (Y1.setCell ⟨ks, 0, none⟩ (.slice av (t.length + x0.size) cv)).heap.size := by simp
            rw [hyy]
            clear hown hDD hszD d1 e1 qm q1 htY ctY ztY ct2 zt2 hGG GG hyy
            generalize Y1.setCell ⟨ks, 0, none⟩ (.slice av (t.length + x0.size) cv) = Y2 at *
            refine wpListIn_append_own_at _ rfl _ _ 78 rfl W.heap.size 5 i5 (.int .u8 0) 1 1 under78 hi5 hz5 hs5 hb5 rfl (by decide) (.slice av (t.length + x0.size) cv) (t.length + x0.size) (Lib.byteCells (t ++ x0.data.toList)) rfl (hu2.alloc _) ⟨Y2.heap.size, 0, none⟩ 1 1 [.int .u8 64] rfl rfl (cell_one_new Y2 _ 5) (by simp [Value.oneCell']) hN1 hN2 (by simp; omega) ?_
            intro v4 Z4 ho4 hg4 _ _
            have fa : Fr [] Y2 (Y2.alloc (.cells #[.int .u8 64] 5)) := (Fr.refl _ _).alloc _
            have f4 := Fr.ofGrown hg4
            have hu1a := (fa.block _ (Array.getElem?_eq_some_iff.1 hu1).1 (by simp)).trans hu1
            have hs2a := (fa.block _ (Array.getElem?_eq_some_iff.1 hs2).1 (by simp)).trans hs2
            have hua := hu2.alloc (.cells #[.int .u8 64] 5)
            have RB4 := (RB2.fr fa (by simp)).fr f4 (own_tt hua)
            have ht4 := (f4.block _ (Array.getElem?_eq_some_iff.1 hu1a).1 (by simp only [Option.mem_toList]; exact own_ne hua hu1a (by decide))).trans hu1a
            have hs4 := (f4.block _ (Array.getElem?_eq_some_iff.1 hs2a).1 (by simp only [Option.mem_toList]; exact own_ne hua hs2a (by decide))).trans hs2a
            have hl4 : (t ++ x0.data.toList ++ [64]).length = t.length + x0.size + 1 := by rw [List.length_append, HTX.out]; rfl
            have ho4' : Z4.ownsRow W.heap.size 5 1 v4 (t.length + x0.size + 1) (Lib.byteCells (t ++ x0.data.toList ++ [64])) := by
              have e : Lib.byteCells (t ++ x0.data.toList ++ [64]) = Lib.byteCells (t ++ x0.data.toList) ++ [.int .u8 64] := by simp [Lib.byteCells]
              rw [e]
              exact ho4
            obtain ⟨a4, c4, hv4, _⟩ := own_slice ho4
            subst hv4
            obtain ⟨hw1, hw2⟩ := txt_put ht4 ho4'
            have RB5 := RB4.fr (set_fr Z4 ks (.slice a4 (t.length + x0.size + 1) c4)) (set_tt ht4 rfl hkW)
            have hs5' := ((set_fr Z4 ks (.slice a4 (t.length + x0.size + 1) c4)).block _ (Array.getElem?_eq_some_iff.1 hs4).1 (by simp)).trans hs4
            have c4k := at_cells ht4 0 rfl
            have z4k : Z4.frozen? ⟨ks, 0, none⟩ = false := by simp [World.frozen?, ht4]
            have c5k := at_cells hw1 0 rfl
            clear hu1 hu2 hs2 fa f4 hu1a hs2a hua ho4 ho4' hg4 RB2 RB4 q2 q3
            gi_wp2
            generalize Z4.setCell ⟨ks, 0, none⟩ (.slice a4 (t.length + x0.size + 1) c4) = Z5 at *
            have hk1000 : k ≤ 1000 := by have := reach_len (T.map Thing.abs) xs; omega
            have hwk : (Lit.int .i64 (k : Nat)).wf = true := wf_small (by omega) (by omega)
            have hlk := itoa_len hwk
            have h3W : 3 ≤ W.heap.size := TT.len
            refine ⟨trivial, rfl, (CallsIn.inRound (D2 + 1) (callsIn_wide.2 (appendInt_any Z5 (TT.fr RB5.g.F (by simp)) W.heap.size h3W RB5.g.F.size _ _ (t ++ x0.data.toList ++ [64]) hw2 (by have := HT.out; omega) (k : Nat) hwk))).mono ?_⟩
            rintro e Z6 ⟨sv6, rfl, ho6, f6⟩
            have RB6 := RB5.fr f6 S5_tt
            have ht6 := (f6.block _ (Array.getElem?_eq_some_iff.1 hw1).1 (S5_out hw1 (by simp))).trans hw1
            have hs6 := (f6.block _ (Array.getElem?_eq_some_iff.1 hs5').1 (S5_out hs5' (by simp))).trans hs5'
            obtain ⟨a6, c6, hv6, _⟩ := own_slice ho6
            subst hv6
            have hl7 : (t ++ x0.data.toList ++ 64 :: Lib.itoa (k : Nat)).length = t.length + x0.size + 1 + (Lib.itoa (k : Nat)).length := by
              have := hl4
              simp only [List.length_append, List.length_cons, List.length_nil] at this ⊢
              omega
            have ho7 : Z6.ownsRow W.heap.size 5 1 (.slice a6 (t.length + x0.size + 1 + (Lib.itoa (k : Nat)).length) c6) (t ++ x0.data.toList ++ 64 :: Lib.itoa (k : Nat)).length (Lib.byteCells (t ++ x0.data.toList ++ 64 :: Lib.itoa (k : Nat))) := by
              rw [hl7]
              have e : t ++ x0.data.toList ++ 64 :: Lib.itoa (k : Nat) = t ++ x0.data.toList ++ [64] ++ Lib.itoa (k : Nat) := by simp
              rw [e]
              exact ho6
            obtain ⟨hy1, hy2⟩ := txt_put ht6 ho7
            have RB7 := RB6.fr (set_fr Z6 ks _) (set_tt ht6 rfl hkW) (W' := Z6.setCell ⟨ks, 0, none⟩ (.slice a6 (t.length + x0.size + 1 + (Lib.itoa (k : Nat)).length) c6))
            have hs7 := ((set_fr Z6 ks (.slice a6 (t.length + x0.size + 1 + (Lib.itoa (k : Nat)).length) c6)).block _ (Array.getElem?_eq_some_iff.1 hs6).1 (by simp)).trans hs6
            have c6k := at_cells ht6 0 rfl
            have z6k : Z6.frozen? ⟨ks, 0, none⟩ = false := by simp [World.frozen?, ht6]
            have c7s := at_cells hs7 0 rfl
            have z7s : (Z6.setCell ⟨ks, 0, none⟩ (.slice a6 (t.length + x0.size + 1 + (Lib.itoa (k : Nat)).length) c6)).frozen? ⟨ks + 1, 0, none⟩ = false := by simp [World.frozen?, hs7]
            have HL7 : Hid ((t ++ x0.data.toList ++ 64 :: Lib.itoa (k : Nat)).length ≤ 200 * (cn + 1)) := by unfold Hid; have := HT.out; omega
            have hplc : plc (reachR (T.map Thing.abs) xs) (2, x3) = some k := by unfold plc; rw [if_pos rfl]; exact hix
            have HCN : Hid (m ≤ cn) := hmc
            have HK1 : Hid (k ≤ 1000) := hk1000
            have HIX : Hid (idx (reachR (T.map Thing.abs) xs) x3 = some k) := hix
            clear hw1 hw2 hs5' f6 ho6 hs6 RB5 RB6 hl4 hl7 ho7 c4k z4k c5k hs4 ht4 hlk hwk hmc hix hkb hk1000 HTX
            by_cases hkm : k = m
            · subst hkm
              have hst : stepW (T.map Thing.abs) (reachR (T.map Thing.abs) xs) (t, k, cn) [.string x0, .bool true, .int .i64 2, .int .i64 x3] = some ((t ++ x0.data.toList ++ 64 :: Lib.itoa (k : Nat), k + 1, cn + 1), bodyL ao) := by
                unfold stepW
                simp [decT, hplc, hao]
              have hkI : (k : Int) + 1 ≤ 9223372036854775807 := by have := HK1.out; omega
              rcases thing_or T x3 with ⟨_, e⟩ | ⟨i, th, hxi, hti, e⟩
              · rw [e] at hao
                cases hao
              subst hxi
              rw [e] at hao
              injection hao with hao
              subst hao
              have gt := fT th (List.mem_of_getElem? hti)
              have hr8 := hso th (List.mem_of_getElem? hti)
              have RB8 := RB7.fr (set_fr _ (ks + 1) (.int .i64 ((k : Int) + 1))) (set_tt hs7 rfl (by omega))
              have f8 := set_fr (Z6.setCell ⟨ks, 0, none⟩ (.slice a6 (t.length + x0.size + 1 + (Lib.itoa (k : Nat)).length) c6)) (ks + 1) (.int .i64 ((k : Int) + 1))
              have hy3 := (f8.block _ (Array.getElem?_eq_some_iff.1 hy1).1 (by simp)).trans hy1
              have hy4 := own_fr hy2 f8 (fun j hj => by
                obtain ⟨c, z, hc⟩ := own_at hy2 hj
                simp only [List.mem_singleton]
                intro e'
                rw [e', hs7] at hc
                simp at hc)
              have hs8 : ((Z6.setCell ⟨ks, 0, none⟩ (.slice a6 (t.length + x0.size + 1 + (Lib.itoa (k : Nat)).length) c6)).setCell ⟨ks + 1, 0, none⟩ (.int .i64 ((k : Int) + 1))).heap[ks + 1]? = some (.cells #[.int .i64 ((k : Int) + 1)] 3 (0, 0)) := by
                have := hs7
                simp only [World.setCell] at this ⊢
                simp [Array.getElem?_modify] at this ⊢
                simp [this]
              have r2 := at_cells RB8.pq 2 (u := .int .i64 2) rfl
              have r3 := at_cells RB8.pq 3 (u := .int .i64 (i : Int)) rfl
              have rh := at_cells RB8.g.hp 0 rfl
              have RE := R.frame RB8.g.F (by simp)
              clear f8 hy1 hy2 RB7
              gi_wp2
              generalize (Z6.setCell ⟨ks, 0, none⟩ (.slice a6 (t.length + x0.size + 1 + (Lib.itoa (k : Nat)).length) c6)).setCell ⟨ks + 1, 0, none⟩ (.int .i64 ((k : Int) + 1)) = Z8 at *
              refine ⟨trivial, rfl, (CallsIn.inRound (D2 + 1) (callsIn_wide.2 (Obj_ok RE i th hti gt.1 (by have := gt.2.1; omega)))).mono ?_⟩
              rintro e' Z9 ⟨g, rfl, f9, hgl, hrow⟩
              have f10 : Fr [] Z8 (Z9.alloc (.cells #[.int .i64 th.sort, .slice (some ⟨g, 0, none⟩) th.cells.length th.cells.length] 41)) := f9.alloc _
              have hb10 : (Z9.alloc (.cells #[.int .i64 th.sort, .slice (some ⟨g, 0, none⟩) th.cells.length th.cells.length] 41)).heap[Z9.heap.size]? = some (.cells #[.int .i64 th.sort, .slice (some ⟨g, 0, none⟩) th.cells.length th.cells.length] 41 (0, 0)) := heap_alloc_new Z9 _
              have RB10 := RB8.fr f10 (by simp)
              have WT10 : WT W.heap.size ks (ks + 1) (t ++ x0.data.toList ++ 64 :: Lib.itoa (k : Nat), k + 1, cn + 1) (Z9.alloc (.cells #[.int .i64 th.sort, .slice (some ⟨g, 0, none⟩) th.cells.length th.cells.length] 41)) :=
                WT.fr ⟨⟨_, hy3, hy4⟩, by simpa using hs8, HL7.out, by have := HCN.out; simp; omega⟩ f10 (by simp)
              have hl10 := (row_lies hrow).fr ((Fr.refl [] Z9).alloc (.cells #[.int .i64 th.sort, .slice (some ⟨g, 0, none⟩) th.cells.length th.cells.length] 41)) (by simp)
              clear RB8 hy3 hy4 hs8 r2 r3 rh RE
              gi_wp2
              generalize Z9.alloc (.cells #[.int .i64 th.sort, .slice (some ⟨g, 0, none⟩) th.cells.length th.cells.length] 41) = Z10 at *
              generalize Z9.heap.size = ko at *
              refine reg23 (TT.fr RB10.g.F (by simp)) RB10.k (by omega) th.abs hr8 gt.2.2 rfl gt.2.1 RB10.g.add hb10 hl10 ?_
              intro a' Z11 Z12 sv' L' f11 f12 k11 k12 p12 l12 r12
              have RB11 := RB10.fr f11 (by simp)
              have WT11 := WT10.fr f11 (by simp)
              have G12 := RB11.g.fr f12 (fun j hj => (stk_tg k11 j hj).1) (fun j hj => (stk_tg k11 j hj).2.2)
              have WT12 := WT11.fr f12 (fun j hj => (stk_tg k11 j hj).2.1)
              have bz12 := (f12.block _ (Array.getElem?_eq_some_iff.1 RB11.bz).1 (k11.far RB11.bz (by simp) (by simp))).trans RB11.bz
              gi_wp2
              refine ⟨bz12, ?_⟩
              rw [hst]
              refine ⟨rfl, ⟨G12.fr (Fr.putObj _) (loop_tg bz12) (fun j hj => by simp at hj; omega), WT12.fr (Fr.putObj _) (loop_tt bz12)⟩, World.putObj_heap_same (Array.getElem?_eq_some_iff.1 bz12).1, sv', L', k12.putObj okT_ne bz12 _, p12, l12, fun j hj => ?_⟩
              refine in85.fr ?_ (Fr.putObj _) (loop_tg bz12)
              rcases r12 j hj with h5 | h5
              · exact (RB11.rg j h5).fr f12 (fun j hj => (stk_tg k11 j hj).1)
              · exact h5.fr f12 (fun j hj => (stk_tg k11 j hj).1)
            · have hst : stepW (T.map Thing.abs) (reachR (T.map Thing.abs) xs) (t, m, cn) [.string x0, .bool true, .int .i64 2, .int .i64 x3] = some ((t ++ x0.data.toList ++ 64 :: Lib.itoa (k : Nat), m, cn + 1), []) := by
                unfold stepW
                simp [decT, hplc, hkm]
              have hkm' : ((k : Int) == (m : Int)) = false := by simp; omega
              gi_wp2
              exact fin _ _ _ RB7 ⟨⟨_, hy1, hy2⟩, hs7, HL7.out, by have := HCN.out; simp; omega⟩ hst
      · rintro e W3 ⟨hv, hE⟩
        obtain ⟨⟨hG0, hT0⟩, hR0⟩ := hE
        refine ⟨hv, .inl ⟨hR0, ?_⟩⟩
        have fq : Fr [D2 + 1] W3 (W3.putObj (D2 + 1) (.loop (rec .exhausted none))) := Fr.putObj _
        have G3 := hG0.fr fq (loop_tg hR0) (fun k hk => by have := HD.out; simp at hk; omega)
        have T3 := hT0.fr fq (loop_tt hR0)
        generalize W3.putObj (D2 + 1) (.loop (rec .exhausted none)) = W4 at *
        obtain ⟨svt, ht1, ht2⟩ := T3.txt
        have ct := at_cells ht1 0 rfl
        have cr := at_cells G3.res 0 rfl
        have zr : W4.frozen? ⟨W.heap.size + 1, 0, none⟩ = false := by have := G3.res; simp [World.frozen?, this]
        obtain ⟨av, cv, hv2, _⟩ := own_slice ht2
        subst hv2
        simp only at ht2 ct
        have hcv := conv_row ht2
        gi_wp2
        have hK2 : (W4.setCell ⟨W.heap.size + 1, 0, none⟩ (.string (bt (showR (T.map Thing.abs) xs)))).heap[D2]? = some (.deferred (some [])) := (Below.heap_setCell _ _ _ _ (by have := HD.out; simp; omega)).trans G3.df2
        have hK1 : (W4.setCell ⟨W.heap.size + 1, 0, none⟩ (.string (bt (showR (T.map Thing.abs) xs)))).heap[D]? = some (.deferred (some [])) := (Below.heap_setCell _ _ _ _ (by have := HD.out; simp; omega)).trans G3.dfr
        have hR4 : (W4.setCell ⟨W.heap.size + 1, 0, none⟩ (.string (bt (showR (T.map Thing.abs) xs)))).heap[W.heap.size + 1]? = some (.cells #[.string (bt (showR (T.map Thing.abs) xs))] 9 (0, 0)) := by have := G3.res; simp [World.setCell, Array.getElem?_modify, this]
        have hF4 : Fr [] W (W4.setCell ⟨W.heap.size + 1, 0, none⟩ (.string (bt (showR (T.map Thing.abs) xs)))) := Fr.setCell G3.F (.inr (by simp)) _
        generalize W4.setCell ⟨W.heap.size + 1, 0, none⟩ (.string (bt (showR (T.map Thing.abs) xs))) = W5 at *
        refine ⟨by simp, .inl ⟨_, _, rfl, run_takeDeferred hK2, ?_⟩⟩
        have hK1' := (World.putObj_heap_other (w := W5) (r := D2) (k := D) (o := .deferred none) (by omega)).trans hK1
        have hR5 := (World.putObj_heap_other (w := W5) (r := D2) (k := W.heap.size + 1) (o := .deferred none) (by have := HD.out; omega)).trans hR4
        have hF5 : Fr [] W (W5.putObj D2 (.deferred none)) := ((hF4.sub (T := [D2]) (by simp)).trans (Fr.putObj _)).sub (fun k hk => .inr (by have := HD.out; simp at hk; omega))
        generalize W5.putObj D2 (.deferred none) = W6 at *
        refine ⟨by simp, .inl ⟨_, _, rfl, run_takeDeferred hK1', ?_⟩⟩
        have hR6 := (World.putObj_heap_other (w := W6) (r := D) (k := W.heap.size + 1) (o := .deferred none) (by have := HD.out; omega)).trans hR5
        exact ⟨.string (bt (showR (T.map Thing.abs) xs)), by simp [results, Tryd.results16, go_sem, World.cell?, hR6], rfl, ((hF5.sub (T := [D]) (by simp)).trans (Fr.putObj _)).sub (fun k hk => .inr (by have := HD.out; simp at hk; omega))⟩
end Go.Proofs.YtefkcmeeagflmaaDoor
namespace Go.Proofs.YtefkcmeeagflmaaDoor
open Go.RowKit
set_option linter.unusedVariables false
set_option linter.unusedSimpArgs false

theorem lies_one {W : World} {g : Nat} {a b : Int} {z : Nat × Nat} (h : W.heap[g]? = some (.cells #[.int .i64 a, .int .i64 b] 45 z)) : Lies W (some ⟨g, 0, none⟩) [(a, b)] := by
  intro _
  refine ⟨_, rfl, fun j u hj => ?_⟩
  rw [Addr.add_lit, Nat.zero_add]
  match j, hj with
  | 0, hj => simp [flat] at hj; subst hj; exact at_cells h 0 rfl
  | 1, hj => simp [flat] at hj; subst hj; exact at_cells h 1 rfl
  | j + 2, hj => simp [flat] at hj

set_option maxRecDepth 100000 in
set_option maxHeartbeats 4000000 in
theorem awake_any (w : World) (TT : Pw w) :
    Calls Tryd.prog 9 #[] w fun e w' => e = .returned (.bool true) ∧ Fr [] w w' := by
  go_enter Tryd.func9, Tryd.ntmps9
  go_wp2_with fail
  refine (new_any 10 _).mono ?_
  rintro e w1 ⟨rfl, rfl⟩
  have R1 := Rep.new w 10
  have F1 : Fr [] w (w.alloc (.cells #[.bool true, .int .i64 (cap0 10), .int .i64 0, .slice none 0 0, .int .i64 0, .int .i64 0] 100)) := (Fr.refl _ _).alloc _
  have hs1 : (w.alloc (.cells #[.bool true, .int .i64 (cap0 10), .int .i64 0, .slice none 0 0, .int .i64 0, .int .i64 0] 100)).heap.size = w.heap.size + 1 := by simp
  generalize w.alloc (.cells #[.bool true, .int .i64 (cap0 10), .int .i64 0, .slice none 0 0, .int .i64 0, .int .i64 0] 100) = w1 at *
  have HS1 : Hid (w1.heap.size = w.heap.size + 1) := hs1
  clear hs1
  go_wp2_with fail
  have F2 : Fr [] w1 (w1.alloc (.cells #[.int .i64 0, .int .i64 5, .int .i64 2, .int .i64 0] 45)) := (Fr.refl _ _).alloc _
  have B2 : (w1.alloc (.cells #[.int .i64 0, .int .i64 5, .int .i64 2, .int .i64 0] 45)).heap[w1.heap.size]? = some (.cells (flat [(0, 5), (2, 0)]).toArray 45 (0, 0)) := heap_alloc_new w1 _
  have R2 := R1.frame F2 (by simp)
  have G2 := F1.trans F2
  generalize w1.alloc (.cells #[.int .i64 0, .int .i64 5, .int .i64 2, .int .i64 0] 45) = w2 at *
  have hl2 := row_lies B2
  generalize w1.heap.size = k1 at *
  refine (Lay_rec R2 0 (by omega) [(0, 5), (2, 0)] (some ⟨k1, 0, none⟩) 2 hl2 (by simp) (by simp) (by simp)).mono ?_
  rintro e w3 ⟨rfl, sv3, t, R3, s3, e3, n3, f3, k3⟩
  have G3 : Fr [] w w3 := ((G2.sub (T := [w.heap.size]) (by simp)).trans (f3.sub (fun k hk => .inl (by simpa [Value.ownBlock] using hk)))).sub (fun k hk => .inr (by simp at hk; omega))
  have hab : ([] ++ [t]).map Thing.abs = exA := by simp [Thing.abs, exA, s3, e3]
  have fT : Fine ([] ++ [t]) := by
    intro u hu
    simp at hu
    subst hu
    rw [s3, e3]
    refine ⟨by omega, by simp, fun c hc => ?_⟩
    simp at hc
    rcases hc with rfl | rfl <;> decide
  have hso : ∀ u, u ∈ [] ++ [t] → (Lit.int .i64 u.sort).wf = true := by
    intro u hu
    simp at hu
    subst hu
    rw [s3]
    decide
  generalize [] ++ [t] = T at *
  clear R1 R2 F1 F2 B2 hl2 G2 f3 k3 n3 s3 e3
  have htot : tot exA = 2 := by simp [tot, wg, exA]
  have hlft : lft wt2 exA [] = 4 := by simp [lft, wg, wt2, exA, mt, idx]
  have hwx : ∀ x, x ∈ [((2 : Int), (0 : Int))] → (Lit.int .i64 x.2).wf = true := by
    intro x hx
    simp at hx
    subst hx
    decide
  go_wp2_with fail
  have F4 : Fr [] w3 ((w3.alloc (.cells #[.int .i64 2, .int .i64 0] 45)).alloc (.cells #[.int .i64 2, .int .i64 0] 45)) := ((Fr.refl _ _).alloc _).alloc _
  have V4 : ((w3.alloc (.cells #[.int .i64 2, .int .i64 0] 45)).alloc (.cells #[.int .i64 2, .int .i64 0] 45)).heap[w3.heap.size]? = some (.cells #[.int .i64 2, .int .i64 0] 45 (0, 0)) := (Below.heap_alloc _ _ _ (by simp)).trans (heap_alloc_new w3 _)
  have X4 := lies_one (blk2 w3 (.cells #[.int .i64 2, .int .i64 0] 45) (.cells #[.int .i64 2, .int .i64 0] 45))
  generalize (w3.alloc (.cells #[.int .i64 2, .int .i64 0] 45)).alloc (.cells #[.int .i64 2, .int .i64 0] 45) = w4 at *
  have R4 := R3.frame F4 (by simp)
  have G4 := G3.trans F4
  generalize w3.heap.size = kv at *
  refine (Reach_all R4 fT [(2, 0)] _ 1 1 rfl X4 (by omega) hwx (by rw [hab, htot]; simp)).mono ?_
  rintro e w5 ⟨v5, rfl, f5, ho5⟩
  rw [hab, ex_reach] at ho5
  have V5 := (f5.block _ (Array.getElem?_eq_some_iff.1 V4).1 (by simp)).trans V4
  have R5 := R4.frame f5 (by simp)
  have G5 := G4.trans f5
  obtain ⟨g5, c5, hv5, hc5⟩ : ∃ g c, v5 = .slice (some ⟨g, 0, none⟩) 1 c ∧ 1 ≤ c := by
    rcases ho5.2 with ⟨_, e⟩ | ⟨g, cap, cur, e, _, _, h1, _⟩
    · simp at e
    · exact ⟨g, cap, e, h1⟩
  subst hv5
  have q5 : w5.cell? ⟨g5, 0, none⟩ = some (.int .i64 0) := by
    obtain ⟨g', c', e', hc, _⟩ := own_cells ho5 (j := 0) (x := .int .i64 0) rfl
    injection e' with e1
    injection e1 with e1
    injection e1 with e1
    subst e1
    exact hc
  have cv0 := at_cells V5 0 rfl
  have cv1 := at_cells V5 1 rfl
  clear R3 G3 F4 V4 X4 R4 G4 ho5 f5
  go_wp2_with fail
  have F6 : Fr [] w5 (w5.alloc (.cells #[.int .i64 2, .int .i64 0] 45)) := (Fr.refl _ _).alloc _
  have X6 := lies_one (heap_alloc_new w5 (.cells #[.int .i64 2, .int .i64 0] 45))
  generalize w5.alloc (.cells #[.int .i64 2, .int .i64 0] 45) = w6 at *
  have G6 := G5.trans F6
  refine (Show_any (R5.frame F6 (by simp)) fT hso (TT.fr G6 (by simp)) [(2, 0)] _ 1 1 rfl X6 (by omega) hwx (by rw [hab, hlft]; simp) (by rw [hab, htot]; simp)).mono ?_
  rw [hab, ex_show]
  rintro e w7 ⟨rfl, f7⟩
  have R7 := (R5.frame F6 (by simp)).frame f7 (by simp)
  have V7 := ((F6.trans f7).block _ (Array.getElem?_eq_some_iff.1 V5).1 (by simp)).trans V5
  have q7 := (F6.trans f7).cell1 q5 (by simp)
  have G7 := G6.trans f7
  have dv0 := at_cells V7 0 rfl
  have dv1 := at_cells V7 1 rfl
  have V8 := fun o => (((Fr.refl [] w7).alloc o).block _ (Array.getElem?_eq_some_iff.1 V7).1 (by simp)).trans V7
  have ev0 := fun o => at_cells (V8 o) 0 (u := .int .i64 2) rfl
  have ev1 := fun o => at_cells (V8 o) 1 (u := .int .i64 0) rfl
  have hc5I : (1 : Int) ≤ (c5 : Int) := by omega
  unfold bt
  clear F6 X6 R5 V5 q5 cv0 cv1 f7 G5 G6
  go_wp2_with fail
  have F8 : Fr [] w7 ((w7.alloc (.cells #[.int .i64 2, .int .i64 0] 45)).alloc (.cells #[.int .i64 2, .int .i64 0] 45)) := ((Fr.refl _ _).alloc _).alloc _
  have X8 : Lies ((w7.alloc (.cells #[.int .i64 2, .int .i64 0] 45)).alloc (.cells #[.int .i64 2, .int .i64 0] 45)) (some ⟨w7.heap.size, 0, none⟩) [(2, 0)] := lies_one (z := (0, 0)) ((Below.heap_alloc _ _ _ (by simp)).trans (heap_alloc_new w7 _))
  have Y8 := lies_one (blk2 w7 (.cells #[.int .i64 2, .int .i64 0] 45) (.cells #[.int .i64 2, .int .i64 0] 45))
  have V9 := (F8.block _ (Array.getElem?_eq_some_iff.1 V7).1 (by simp)).trans V7
  generalize (w7.alloc (.cells #[.int .i64 2, .int .i64 0] 45)).alloc (.cells #[.int .i64 2, .int .i64 0] 45) = w8 at *
  have R8 := R7.frame F8 (by simp)
  refine (Same_any R8 R8 fT fT [(2, 0)] [(2, 0)] 1 1 rfl rfl _ _ 1 1 X8 Y8 (by omega) hwx hwx (by rw [hab, htot]; simp)).mono ?_
  rw [hab]
  rintro e w9 ⟨r9, rfl, hr9, f9⟩
  rw [hr9.2 ex_alike]
  have V10 := (f9.block _ (Array.getElem?_eq_some_iff.1 V9).1 (by simp)).trans V9
  have R9 := R8.frame f9 (by simp)
  have G9 := G7.trans (F8.trans f9)
  have gv0 := at_cells V10 0 rfl
  have gv1 := at_cells V10 1 rfl
  clear V8 ev0 ev1 dv0 dv1 V7 V9 X8 Y8 R8 R7 G7 F8 f9 hr9 q7
  go_wp2_with fail
  have F10 : Fr [] w9 (w9.alloc (.cells #[.int .i64 2, .int .i64 0] 45)) := (Fr.refl _ _).alloc _
  have X10 := lies_one (heap_alloc_new w9 (.cells #[.int .i64 2, .int .i64 0] 45))
  generalize w9.alloc (.cells #[.int .i64 2, .int .i64 0] 45) = w10 at *
  have R10 := R9.frame F10 (by simp)
  refine (Same_any R10 R10 fT fT [(2, 0)] [] 1 0 rfl rfl _ none 1 0 X10 (fun h => by simp at h) (by omega) hwx (by simp) (by rw [hab, htot]; simp)).mono ?_
  rw [hab]
  rintro e w11 ⟨r11, rfl, hr11, f11⟩
  have hf : r11 = false := by
    cases r11 with
    | false => rfl
    | true => exact absurd (hr11.1 rfl) ex_not
  rw [hf]
  have G11 := G9.trans (F10.trans f11)
  go_wp2
  go_ret
  exact ⟨rfl, G11⟩
end Go.Proofs.YtefkcmeeagflmaaDoor
namespace Go.Proofs.YtefkcmeeagflmaaDoor
open Go.RowKit
set_option linter.unusedVariables false
set_option linter.unusedSimpArgs false

/-- A thing that came in may be. -/
structure OFn (y : OR) : Prop where
  len : y.xs.length = y.m
  wr : (Lit.int .i64 y.r).wf = true
  wx : ∀ c, c ∈ y.xs → (Lit.int .i64 c.2).wf = true

theorem laySort_wf {r : Int} (h : (Lit.int .i64 r).wf = true) : (Lit.int .i64 (laySort r)).wf = true := by
  unfold laySort
  split
  · decide
  · exact h
theorem laySort_ge (r : Int) : -1 ≤ laySort r := by
  unfold laySort
  split <;> omega

theorem wgO (L : List OR) (h : ∀ y, y ∈ L → OFn y) : ∀ k, wg (fun a => a.2.length) (fun _ => false) k (L.map OR.abs) + L.length = totO L := by
  induction L with
  | nil => intro k; simp [wg, totO]
  | cons y r ih =>
    intro k
    have h1 := ih (fun z hz => h z (by simp [hz])) (k + 1)
    have h2 := (h y (by simp)).len
    simp only [List.map_cons, wg, totO, List.length_cons, OR.abs] at h1 ⊢
    simp only [Bool.false_eq_true, if_false]
    omega
theorem wgO2 (L : List OR) (h : ∀ y, y ∈ L → OFn y) : ∀ k, wg wt2 (fun _ => false) k (L.map OR.abs) ≤ 2 * totO L := by
  induction L with
  | nil => intro k; simp [wg, totO]
  | cons y r ih =>
    intro k
    have h1 := ih (fun z hz => h z (by simp [hz])) (k + 1)
    have h2 := (h y (by simp)).len
    simp only [List.map_cons, wg, totO, OR.abs, wt2] at h1 ⊢
    simp only [Bool.false_eq_true, if_false]
    omega

theorem laid_fine {L : List OR} {T : List Thing} (h : T.map Thing.abs = L.map OR.abs) (hF : ∀ y, y ∈ L → OFn y) (ht : totO L ≤ 300) : Fine T ∧ (∀ t, t ∈ T → (Lit.int .i64 t.sort).wf = true) := by
  have key : ∀ t, t ∈ T → ∃ y, y ∈ L ∧ t.sort = laySort y.r ∧ t.cells = y.xs := by
    intro t htm
    have : t.abs ∈ L.map OR.abs := by rw [← h]; exact List.mem_map_of_mem htm
    simp only [List.mem_map] at this
    obtain ⟨y, hy, e⟩ := this
    simp only [OR.abs, Thing.abs, Prod.mk.injEq] at e
    exact ⟨y, hy, e.1.symm, e.2.symm⟩
  refine ⟨fun t htm => ?_, fun t htm => ?_⟩
  · obtain ⟨y, hy, e1, e2⟩ := key t htm
    have hf := hF y hy
    obtain ⟨i, hi⟩ := List.getElem?_of_mem hy
    have hm := totO_at L i y hi
    have hl := hf.len
    rw [e1, e2]
    exact ⟨laySort_ge _, by omega, hf.wx⟩
  · obtain ⟨y, hy, e1, e2⟩ := key t htm
    rw [e1]
    exact laySort_wf (hF y hy).wr

theorem ORs.mono {B B' : Nat} {w : World} {a0 : Option Addr} {L : List OR} (h : ORs B w a0 L) (hb : B ≤ B') : ORs B' w a0 L := fun i x hx => by
  obtain ⟨g, o, e, hg, hA⟩ := h i x hx
  exact ⟨g, o, e, by omega, hA⟩
theorem ORs.fr {B : Nat} {w w' : World} {a0 : Option Addr} {L : List OR} (h : ORs B w a0 L) (f : Fr [] w w') (hB : B ≤ w.heap.size) : ORs w'.heap.size w' a0 L := (h.below (f.below hB (by simp))).mono (by have := f.size; omega)
theorem Src.mono {B B' : Nat} {w : World} {a : Option Addr} {n c : Nat} {xs : List (Int × Int)} (h : Src B w a n c xs) (hb : B ≤ B') : Src B' w a n c xs := ⟨h.len, h.none, fun ad e hp => by have := h.low ad e hp; omega, h.lies⟩
theorem Src.up {B : Nat} {w w' : World} {a : Option Addr} {n c : Nat} {xs : List (Int × Int)} (h : Src B w a n c xs) (f : Fr [] w w') (hB : B ≤ w.heap.size) : Src w'.heap.size w' a n c xs := (h.fr f (by simp)).mono (by have := f.size; omega)

/-- append, where a region draws its order and a test stands ahead. -/
theorem step_append_w {P : Program} {ops : Array Oper} {o : Oper} {a : Act} {w : World} {K : Act → World → Prop} {Q : Exit → Act → World → Prop} {E : Prop} (hw : Region.wanted o (yielded ops a.tmps) = true) (s x : Operand) (t : TypeId)
    (ho : o.op = .call { callee := .builtin .append, args := #[s, x], argTypes := #[t, t] })
    (base : Nat) (e : TypeId) (i : TypeInfo) (z : Value) (size bytes : Nat) (ht : P.underlying t = some (.slice e)) (hi : P.info? e = some i) (hz : i.zero = some z)
    (hsize : i.size = size) (hby : i.bytes = bytes) (hzs : z.cells.size = size) (hsz : 0 < size)
    (v : Value) (n : Nat) (xs : List Value) (hs : a.eval s = v) (hown : w.ownsRow base e size v n xs)
    (ao : Option Addr) (m c : Nat) (news : List Value) (hx : a.eval x = .slice ao m c) (hl : news.length = m * size) (hnone : ao = none → m = 0 ∧ c = 0) (hnews : ∀ ad, ao = some ad → ∀ j u, news[j]? = some u → w.cell? (ad.add j) = some u) (h1 : ∀ u ∈ news, u.oneCell' = true)
    (h63 : n + m ≤ maxLen) (hbytes : (n + m) * bytes ≤ 140737488355328) (hbase : base ≤ w.heap.size)
    (h : ∀ v' w', w'.ownsRow base e size v' (n + m) (xs ++ news) → w.grownBy w' v.ownBlock → (∀ k, v'.ownBlock = some k → v.ownBlock = some k ∨ w.heap.size ≤ k) → K (a.put o.dst v') w') :
    if Region.wanted o (yielded ops a.tmps) = true then Oper.wp P o a w K Q else E := by
  rw [if_pos hw]
  have key : ∃ v' w', (Builtin.append_ #[t, t] o.type #[v, .slice ao m c]).run P w = .ok v' w' ∧ w'.ownsRow base e size v' (n + m) (xs ++ news) ∧ w.grownBy w' v.ownBlock ∧ (∀ k, v'.ownBlock = some k → v.ownBlock = some k ∨ w.heap.size ≤ k) := by
    cases ao with
    | some ad => exact run_append_fp (P := P) w base t o.type e i z size bytes ht hi hz hsize hby hzs hsz v n xs hown ad m c news hl (hnews ad rfl) h1 h63 hbytes hbase
    | none =>
      obtain ⟨rfl, rfl⟩ := hnone rfl
      have hn0 : news = [] := List.eq_nil_of_length_eq_zero (by simpa using hl)
      subst hn0
      have hrun := run_append_owned_none (P := P) w base t o.type e i size ht hi v n xs hown
      exact ⟨v, w, hrun, by simpa using hown, World.grownBy.refl _ _, fun k hk => .inl hk⟩
  obtain ⟨v', w', hr, h2, h3, h4⟩ := key
  unfold Oper.wp execOp
  simp only [ho, resolve, invoke, builtin, Sem.run_bind, Sem.run_pure, Result.andThen_ok, List.map_toArray, List.map_cons, List.map_nil, hs, hx, hr]
  exact h v' w' h2 h3 h4
theorem flat_app : ∀ (x y : List (Int × Int)), flat (x ++ y) = flat x ++ flat y
  | [], y => rfl
  | p :: x, y => by simp [flat, flat_app x y]
theorem own_lies {w : World} {B n : Nat} {v : Value} {xs : List (Int × Int)} (h : w.ownsRow B 45 2 v n (flat xs)) (hp : 0 < n) : ∃ g c, v = .slice (some ⟨g, 0, none⟩) n c ∧ Lies w (some ⟨g, 0, none⟩) xs := by
  rcases h.2 with ⟨_, e⟩ | ⟨g, cap, cur, e, _⟩
  · omega
  · subst e
    refine ⟨g, cap, rfl, fun _ => ⟨_, rfl, fun j u hj => ?_⟩⟩
    exact own_src h j u hj
end Go.Proofs.YtefkcmeeagflmaaDoor
