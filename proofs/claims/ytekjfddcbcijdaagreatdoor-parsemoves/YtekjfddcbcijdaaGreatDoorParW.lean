/-
  What reads tokens, with what it catches; condition: the tokens lie as told.
-/
import Derived.Test.YtekjfddcbcijdaaGreatDoorParV
import Derived.Recover
namespace Go.Proofs.YtekjfddcbcijdaaGreatDoor
open Go.RowKit
set_option linter.unusedVariables false
set_option linter.unusedSimpArgs false

theorem catch_idle (p q r : Addr) (w : World) :
    CallsD Tryz.prog 12 #[.pointer (some p), .pointer (some q), .pointer (some r)] .returning w fun e u' w' => e = .returned (.tuple #[]) ∧ u' = .returning ∧ w' = w := by
  refine callsD_of_wpS Tryz.func12 rfl fun c₀ cs hu => ?_
  apply wpS_seq
  apply wpS_region
  simp [wpOpsS, go_sem, recoverD, hu, Tryz.ntmps12, Exit.thenS]
  apply wpS_of_wp
  go_wp2
  cases c₀
  simp_all [bodyPostS, results, Tryz.results12]

theorem wp_tmps {c : Code} {Q : Exit → Act → World → Prop} {X Y : Array Value} {w : World} (h : X = Y) (k : c.wp Tryz.prog Q { tmps := Y, defers := [] } w) : c.wp Tryz.prog Q { tmps := X, defers := [] } w := h ▸ k

theorem assert74 (v : Value) (w : World) : (Instr.typeAssert (.iface 45 v) 20 45 true).run Tryz.prog w = .ok (.tuple #[v, .bool true]) w := by kernel_rfl

set_option maxRecDepth 100000 in
set_option maxHeartbeats 1000000 in
theorem catch_thrown (b0 b1 b2 k : Nat) (w : World) (vp vq vr : Value) (t0 t1 t2 : TypeId) (h01 : b0 ≠ b1) (h02 : b0 ≠ b2) (h12 : b1 ≠ b2) (e0 : w.heap[b0]? = some (.cells #[vp] t0 (0, 0))) (e1 : w.heap[b1]? = some (.cells #[vq] t1 (0, 0))) (e2 : w.heap[b2]? = some (.cells #[vr] t2 (0, 0))) :
    CallsD Tryz.prog 12 #[.pointer (some ⟨b0, 0, none⟩), .pointer (some ⟨b1, 0, none⟩), .pointer (some ⟨b2, 0, none⟩)] (.panicking [{ v := .iface 45 (.agg #[.int .i64 (k : Nat)]), recovered := false }]) w fun e u' w' => e = .returned (.tuple #[]) ∧ u' = .panicking [{ v := .iface 45 (.agg #[.int .i64 (k : Nat)]), recovered := true }] ∧ Fr [b0, b1, b2] w w' ∧ w'.heap[b0]? = some (.cells #[.slice none 0 0] t0 (0, 0)) ∧ w'.heap[b1]? = some (.cells #[.int .i64 (k : Nat)] t1 (0, 0)) ∧ w'.heap[b2]? = some (.cells #[.int .i64 60] t2 (0, 0)) := by
  refine callsD_of_wpS Tryz.func12 rfl fun c₀ cs hu => ?_
  apply wpS_seq
  apply wpS_region
  simp [wpOpsS, go_sem, recoverD, hu, Tryz.ntmps12, Exit.thenS]
  apply wpS_of_wp
  refine wp_tmps (Y := #[.pointer (some ⟨b0, 0, none⟩), .pointer (some ⟨b1, 0, none⟩), .pointer (some ⟨b2, 0, none⟩), undef, undef, undef, .iface 45 (.agg #[.int .i64 (k : Nat)]), undef, undef, undef, undef, undef, undef, undef]) rfl ?_
  have ha := assert74 (.agg #[.int .i64 (k : Nat)]) w
  go_wp2
  have gA : Fr [b0, b1, b2] w (w.alloc (.cells #[.int .i64 (k : Nat)] 45)) := (Fr.refl _ _).alloc _
  have bA : (w.alloc (.cells #[.int .i64 (k : Nat)] 45)).heap[w.heap.size]? = some (.cells #[.int .i64 (k : Nat)] 45 (0, 0)) := heap_alloc_new w _
  have kp : ∀ {j : Nat} {o : Obj}, w.heap[j]? = some o → (w.alloc (.cells #[.int .i64 (k : Nat)] 45)).heap[j]? = some o := fun h => (((Fr.refl [] w).alloc _).block _ (Array.getElem?_eq_some_iff.1 h).1 (by simp)).trans h
  have lt : ∀ {j : Nat} {o : Obj}, w.heap[j]? = some o → j ≠ w.heap.size := fun h => by have := (Array.getElem?_eq_some_iff.1 h).1; omega
  have n0 := lt e0
  have n1 := lt e1
  have n2 := lt e2
  have E0 := kp e0
  have E1 := kp e1
  have E2 := kp e2
  generalize hN : w.heap.size = N at *
  generalize w.alloc (.cells #[.int .i64 (k : Nat)] 45) = Y at *
  have ca := at_cells bA 0 rfl
  have c0 := at_cells E0 0 rfl
  have c1 := at_cells E1 0 rfl
  have c2 := at_cells E2 0 rfl
  have z0 : Y.frozen? ⟨b0, 0, none⟩ = false := by simp [World.frozen?, E0]
  have z1 : Y.frozen? ⟨b1, 0, none⟩ = false := by simp [World.frozen?, E1]
  have z2 : Y.frozen? ⟨b2, 0, none⟩ = false := by simp [World.frozen?, E2]
  go_region
  refine ⟨rfl, _, rfl, .tuple #[], by simp [results, Tryz.results12], rfl, rfl, ?_, ?_, ?_, ?_⟩
  · exact (((gA.setCell (.inl (by simp)) _).setCell (.inl (by simp)) _).setCell (.inl (by simp)) _).drew
  · exact set_other h02 (set_other h01 (set_same E0))
  · exact set_other h12 (set_same (set_other (Ne.symm h01) E1))
  · exact set_same (set_other (Ne.symm h12) (set_other (Ne.symm h02) E2))

/-- The world in which the parser begins. -/
def begin7 (tg n tc : Nat) (w : World) : World :=
  ((((((w.alloc (.cells #[.slice none 0 0] 23)).alloc (.cells #[.int .i64 0] 3)).alloc (.cells #[.int .i64 0] 24)).alloc (.map (EsR declM 0).toArray 2)).alloc (.map (EsR stmtM 0).toArray 7)).alloc (.map (EsR firstM 0).toArray 12)).alloc (.cells #[.slice (some ⟨tg, 0, none⟩) n tc, .int .i64 0, .slice none 0 0, .map (some (w.heap.size + 1 + 1 + 1)), .map (some (w.heap.size + 1 + 1 + 1 + 1)), .map (some (w.heap.size + 1 + 1 + 1 + 1 + 1))] 49)

theorem keep_alloc {w : World} {k : Nat} {o u : Obj} (h : w.heap[k]? = some o) : (w.alloc u).heap[k]? = some o := (((Fr.refl [] w).alloc u).block _ (Array.getElem?_eq_some_iff.1 h).1 (by simp)).trans h
theorem new_alloc {w : World} {k : Nat} (u : Obj) (h : k = w.heap.size) : (w.alloc u).heap[k]? = some u := by subst h; exact heap_alloc_new w u
theorem begin7_fr (tg n tc : Nat) (w : World) : Fr [] w (begin7 tg n tc w) := (((((((Fr.refl _ _).alloc _).alloc _).alloc _).alloc _).alloc _).alloc _).alloc _
theorem begin7_b (tg n tc : Nat) (w : World) :
    (begin7 tg n tc w).heap[w.heap.size]? = some (.cells #[.slice none 0 0] 23 (0, 0)) ∧ (begin7 tg n tc w).heap[w.heap.size + 1]? = some (.cells #[.int .i64 0] 3 (0, 0)) ∧ (begin7 tg n tc w).heap[w.heap.size + 1 + 1]? = some (.cells #[.int .i64 0] 24 (0, 0)) ∧ (begin7 tg n tc w).heap[w.heap.size + 1 + 1 + 1]? = some (.map (EsR declM 0).toArray 2) ∧ (begin7 tg n tc w).heap[w.heap.size + 1 + 1 + 1 + 1]? = some (.map (EsR stmtM 0).toArray 7) ∧ (begin7 tg n tc w).heap[w.heap.size + 1 + 1 + 1 + 1 + 1]? = some (.map (EsR firstM 0).toArray 12) ∧ (begin7 tg n tc w).heap[w.heap.size + 1 + 1 + 1 + 1 + 1 + 1]? = some (.cells #[.slice (some ⟨tg, 0, none⟩) n tc, .int .i64 0, .slice none 0 0, .map (some (w.heap.size + 1 + 1 + 1)), .map (some (w.heap.size + 1 + 1 + 1 + 1)), .map (some (w.heap.size + 1 + 1 + 1 + 1 + 1))] 49 (0, 0)) ∧ (begin7 tg n tc w).heap.size = w.heap.size + 7 := by
  unfold begin7
  refine ⟨?_, ?_, ?_, ?_, ?_, ?_, ?_, by simp [World.size_alloc]⟩
  · exact keep_alloc (keep_alloc (keep_alloc (keep_alloc (keep_alloc (keep_alloc (new_alloc _ rfl))))))
  · exact keep_alloc (keep_alloc (keep_alloc (keep_alloc (keep_alloc (new_alloc _ (by simp [World.size_alloc]))))))
  · exact keep_alloc (keep_alloc (keep_alloc (keep_alloc (new_alloc _ (by simp [World.size_alloc])))))
  · exact keep_alloc (keep_alloc (keep_alloc (new_alloc _ (by simp [World.size_alloc]))))
  · exact keep_alloc (keep_alloc (new_alloc _ (by simp [World.size_alloc])))
  · exact keep_alloc (new_alloc _ (by simp [World.size_alloc]))
  · exact new_alloc _ (by simp [World.size_alloc])
def own7 (tg N : Nat) : List Nat := [tg, N + 1 + 1 + 1, N + 1 + 1 + 1 + 1, N + 1 + 1 + 1 + 1 + 1, N + 1 + 1 + 1 + 1 + 1 + 1]
theorem begin7_ps {ts : List Tok} (hT : Toks ts) {tg tc B : Nat} {w : World} (hR : TRow w tg ts) (hB : B ≤ tg) (hlo : 6 ≤ B) (hBw : B ≤ w.heap.size) (htl : ts.length ≤ 200001) (htc : ts.length ≤ tc) :
    PS ts B (w.heap.size + 1 + 1 + 1 + 1 + 1 + 1) (own7 tg w.heap.size) 0 [] (begin7 tg ts.length tc w) := by
  obtain ⟨h0, h1, h2, h3, h4, h5, h6, hs⟩ := begin7_b tg ts.length tc w
  obtain ⟨c, z, hr1, hr2⟩ := hR
  have hlt := (Array.getElem?_eq_some_iff.1 hr1).1
  refine ⟨⟨tg, tc, .slice none 0 0, _, _, _, [], h6, htc, by simp [own7], ⟨c, z, ((begin7_fr tg ts.length tc w).block _ hlt (by simp)).trans hr1, hr2⟩, by simp [own7], h3, by simp [own7], h4, by simp [own7], h5, ?_⟩, by simp [own7], ?_, hlo, htl, hT.pos⟩
  · exact ⟨rfl, World.ownsRow_nil _ _ _ _, by simp [Value.ownBlock], by simp⟩
  · intro j hj
    simp [own7] at hj
    rw [hs]
    omega

theorem KRow.fr {w w' : World} {F S : List Nat} {m : MN} (h : KRow w F m) (f : Fr S w w') (hS : ∀ k ∈ S, k ∉ F) : KRow w' F m := by
  obtain ⟨k1, k2, k3⟩ := h
  refine ⟨k1, k2, fun j k hk => ?_⟩
  obtain ⟨b, o, c, z, e1, e2, e3, e4⟩ := k3 j k hk
  exact ⟨b, o, c, z, e1, e2, (f.block _ (Array.getElem?_eq_some_iff.1 e3).1 (fun hm => hS _ hm e2)).trans e3, e4⟩

def ReadPost (ts : List Tok) (B tg : Nat) (w : World) : Except Nat (List Nat × Nat × List PN) → Ending → World → Prop
  | .ok (_, _, ms), e, w' => ∃ (nv : Value) (L : List MN) (F' : List Nat), e = .returned (.tuple #[nv, .int .i64 0, .int .i64 0]) ∧ L.map MN.x = ms ∧ w'.ownsRow B 30 4 nv L.length (flatM L) ∧ (∀ k, nv.ownBlock = some k → k ∈ F') ∧ (∀ m ∈ L, KRow w' F' m) ∧ (∀ j ∈ F', B ≤ j ∧ j < w'.heap.size) ∧ Fr [tg] w w'
  | .error k, e, w' => e = .returned (.tuple #[.slice none 0 0, .int .i64 ((tk ts k).frm : Nat), .int .i64 60]) ∧ Fr [tg] w w'

set_option maxRecDepth 100000 in
set_option maxHeartbeats 1000000 in
theorem parsed_any {ts : List Tok} (hT : Toks ts) {tg tc B f : Nat} {w : World} (T0 : Tabs w) (hR : TRow w tg ts) (hB : B ≤ tg) (hlo : 6 ≤ B) (hBw : B ≤ w.heap.size) (htl : ts.length ≤ 200001) (htc : ts.length ≤ tc) {r : Except Nat (List Nat × Nat × List PN)} (hP : P ts f .prog 0 [] = some r) :
    Calls Tryz.prog 9 #[.slice (some ⟨tg, 0, none⟩) ts.length tc] w (ReadPost ts B tg w r) := by
  have hmf : ∀ (fn : Fn) (first cap : Array Value) (w : World), (Instr.makeFunc fn first cap).run Tryz.prog w = .ok (.func fn first cap) w := fun _ _ _ _ => rfl
  have hps := begin7_ps hT hR hB hlo hBw htl htc
  have hb7 := begin7_b tg ts.length tc w
  have f7 := begin7_fr tg ts.length tc w
  have hlt : tg < w.heap.size := by obtain ⟨c, z, hr1, hr2⟩ := hR; exact (Array.getElem?_eq_some_iff.1 hr1).1
  have T7 : Tabs (begin7 tg ts.length tc w) := T0.fr f7 (by simp)
  have C := hyp_all (B := B) (pb := w.heap.size + 1 + 1 + 1 + 1 + 1 + 1) hT f f .prog 0 [] _ _ r (Nat.le_refl _) hps T7 trivial (by simp) hP
  simp only [Ctr, ptr] at C
  go_enter_defers Tryz.func9, Tryz.ntmps9
  go_wp2_with (first | (go_at_call 13; refine (decls_any _).mono ?_; rintro e w' ⟨rfl, rfl⟩) | (go_at_call 14; refine (stmts_any _).mono ?_; rintro e w' ⟨rfl, rfl⟩) | (go_at_call 15; refine (firsts_any _).mono ?_; rintro e w' ⟨rfl, rfl⟩))
  refine C.mono ?_
  clear C hmf
  obtain ⟨e0, e1, e2, -, -, -, -, hs7⟩ := hb7
  rcases r with k | ⟨v, j, ms⟩
  · rintro e W ⟨rfl, fW⟩
    have E0 := (fW.block _ (Array.getElem?_eq_some_iff.1 e0).1 (by simp [own7]; omega)).trans e0
    have E1 := (fW.block _ (Array.getElem?_eq_some_iff.1 e1).1 (by simp [own7]; omega)).trans e1
    have E2 := (fW.block _ (Array.getElem?_eq_some_iff.1 e2).1 (by simp [own7]; omega)).trans e2
    refine leaves_cons (f := 12) (args := #[.pointer (some ⟨w.heap.size, 0, none⟩), .pointer (some ⟨w.heap.size + 1, 0, none⟩), .pointer (some ⟨w.heap.size + 1 + 1, 0, none⟩)]) (by simp) (by simp [go_sem]) ?_
    refine (catch_thrown _ _ _ (tk ts k).frm W _ _ _ _ _ _ (by omega) (by omega) (by omega) E0 E1 E2).mono ?_
    rintro e u' w'' ⟨rfl, rfl, fz, g0, g1, g2⟩
    have c0 := at_cells g0 0 rfl
    have c1 := at_cells g1 0 rfl
    have c2 := at_cells g2 0 rfl
    simp [Leaves, settle, results, Tryz.results9, go_sem, c0, c1, c2]
    refine ⟨rfl, ?_⟩
    have g7 : Fr ([w.heap.size, w.heap.size + 1, w.heap.size + 1 + 1] ++ own7 tg w.heap.size) w w'' := ((f7.sub (by simp)).trans (fW.sub (fun k hk => .inl (List.mem_append_right _ hk)))).trans (fz.sub (fun k hk => .inl (List.mem_append_left _ hk)))
    exact g7.sub (fun k hk => by simp [own7] at hk ⊢; omega)
  · rintro e W ⟨rfl, F', hps', tr⟩
    have NI : ∀ b, w.heap.size ≤ b → b < w.heap.size + 1 + 1 + 1 → b ∉ F' := fun b h1 h2 => tr.notin (by simp [own7]; omega) (by omega)
    have n0 := NI _ (Nat.le_refl _) (by omega)
    have n1 := NI (w.heap.size + 1) (by omega) (by omega)
    have n2 := NI (w.heap.size + 1 + 1) (by omega) (by omega)
    have E0 := (tr.f.block _ (Array.getElem?_eq_some_iff.1 e0).1 (by simp [own7]; omega)).trans e0
    have E1 := (tr.f.block _ (Array.getElem?_eq_some_iff.1 e1).1 (by simp [own7]; omega)).trans e1
    have E2 := (tr.f.block _ (Array.getElem?_eq_some_iff.1 e2).1 (by simp [own7]; omega)).trans e2
    have f8 : Fr [tg] w W := ((f7.sub (T := own7 tg w.heap.size) (by simp)).trans tr.f).sub (fun k hk => by simp [own7] at hk ⊢; omega)
    obtain ⟨tg', tc', nv, bd, bs, bf, L, hpb, -, -, -, -, -, -, -, -, -, hL, hown, hob, hkr⟩ := hps'.ex
    obtain ⟨sa, sc, rfl, -⟩ := own_slice hown
    have cp := at_cells hpb 2 rfl
    have c0 := at_cells E0 0 rfl
    have c1 := at_cells E1 0 rfl
    have c2 := at_cells E2 0 rfl
    have z0 : W.frozen? ⟨w.heap.size, 0, none⟩ = false := by simp [World.frozen?, E0]
    have z1 : W.frozen? ⟨w.heap.size + 1, 0, none⟩ = false := by simp [World.frozen?, E1]
    have z2 : W.frozen? ⟨w.heap.size + 1 + 1, 0, none⟩ = false := by simp [World.frozen?, E2]
    clear T0 T7 hP hR
    go_wp2
    have f9 : Fr [w.heap.size, w.heap.size + 1, w.heap.size + 1 + 1] W (((W.setCell ⟨w.heap.size, 0, none⟩ (.slice sa L.length sc)).setCell ⟨w.heap.size + 1, 0, none⟩ (.int .i64 0)).setCell ⟨w.heap.size + 1 + 1, 0, none⟩ (.int .i64 0)) := (((Fr.refl _ _).setCell (.inl (by simp)) _).setCell (.inl (by simp)) _).setCell (.inl (by simp)) _
    have g0 := set_other (v := .int .i64 0) (show w.heap.size ≠ w.heap.size + 1 + 1 by omega) (set_other (v := .int .i64 0) (show w.heap.size ≠ w.heap.size + 1 by omega) (set_same (v := .slice sa L.length sc) E0))
    have g1 := set_other (v := .int .i64 0) (show w.heap.size + 1 ≠ w.heap.size + 1 + 1 by omega) (set_same (v := .int .i64 0) (set_other (v := .slice sa L.length sc) (show w.heap.size + 1 ≠ w.heap.size by omega) E1))
    have g2 := set_same (v := .int .i64 0) (set_other (v := .int .i64 0) (show w.heap.size + 1 + 1 ≠ w.heap.size + 1 by omega) (set_other (v := .slice sa L.length sc) (show w.heap.size + 1 + 1 ≠ w.heap.size by omega) E2))
    generalize ((W.setCell ⟨w.heap.size, 0, none⟩ (.slice sa L.length sc)).setCell ⟨w.heap.size + 1, 0, none⟩ (.int .i64 0)).setCell ⟨w.heap.size + 1 + 1, 0, none⟩ (.int .i64 0) = W9 at *
    refine leaves_cons (f := 12) (args := #[.pointer (some ⟨w.heap.size, 0, none⟩), .pointer (some ⟨w.heap.size + 1, 0, none⟩), .pointer (some ⟨w.heap.size + 1 + 1, 0, none⟩)]) (by simp) (by simp [go_sem]) ?_
    refine (catch_idle _ _ _ _).mono ?_
    rintro e u' w'' ⟨rfl, rfl, rfl⟩
    have d0 := at_cells g0 0 rfl
    have d1 := at_cells g1 0 rfl
    have d2 := at_cells g2 0 rfl
    simp [Leaves, settle, results, Tryz.results9, go_sem, d0, d1, d2]
    have hn : ∀ k, k ∈ [w.heap.size, w.heap.size + 1, w.heap.size + 1 + 1] → k ∉ F' := fun k hk => by
      simp at hk
      rcases hk with rfl | rfl | rfl
      · exact n0
      · exact n1
      · exact n2
    refine ⟨_, L, F', rfl, hL, own_fr hown f9 (fun k hk hm => hn k hm (hob k hk)), hob, fun m hm => (hkr m hm).fr f9 hn, fun j hj => ⟨(hps'.fb j hj).1, Nat.lt_of_lt_of_le (hps'.fb j hj).2 f9.size⟩, ?_⟩
    have g7 : Fr ([w.heap.size, w.heap.size + 1, w.heap.size + 1 + 1] ++ [tg]) w w'' := (f8.sub (fun k hk => .inl (List.mem_append_right _ hk))).trans (f9.sub (fun k hk => .inl (List.mem_append_left _ hk)))
    exact g7.sub (fun k hk => by simp at hk ⊢; omega)
end Go.Proofs.YtekjfddcbcijdaaGreatDoor
