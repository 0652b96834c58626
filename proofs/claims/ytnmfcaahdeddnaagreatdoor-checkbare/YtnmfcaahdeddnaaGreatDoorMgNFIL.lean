/-
  Texts of the proof, in their order: ParW, ParX, TreeA; conditions: as each says.
-/
import Derived.Recover
import Derived.Test.YtnmfcaahdeddnaaGreatDoorMgGPHI
namespace Go.Proofs.YtnmfcaahdeddnaaGreatDoor
open Go.RowKit
set_option linter.unusedVariables false
set_option linter.unusedSimpArgs false

theorem catch_idle (p q r : Addr) (w : World) :
    CallsD Tryz.prog 73 #[.pointer (some p), .pointer (some q), .pointer (some r)] .returning w fun e u' w' => e = .returned (.tuple #[]) ∧ u' = .returning ∧ w' = w := by
  refine callsD_of_wpS Tryz.func73 rfl fun c₀ cs hu => ?_
  apply wpS_seq
  apply wpS_region
  simp [wpOpsS, go_sem, recoverD, hu, Tryz.ntmps73, Exit.thenS]
  apply wpS_of_wp
  go_wp2
  cases c₀
  simp_all [bodyPostS, results, Tryz.results73]

theorem wp_tmps {c : Code} {Q : Exit → Act → World → Prop} {X Y : Array Value} {w : World} (h : X = Y) (k : c.wp Tryz.prog Q { tmps := Y, defers := [] } w) : c.wp Tryz.prog Q { tmps := X, defers := [] } w := h ▸ k

theorem assert74 (v : Value) (w : World) : (Instr.typeAssert (.iface 131 v) 20 131 true).run Tryz.prog w = .ok (.tuple #[v, .bool true]) w := by kernel_rfl

set_option maxRecDepth 100000 in
set_option maxHeartbeats 1000000 in
theorem catch_thrown (b0 b1 b2 k : Nat) (w : World) (vp vq vr : Value) (t0 t1 t2 : TypeId) (h01 : b0 ≠ b1) (h02 : b0 ≠ b2) (h12 : b1 ≠ b2) (e0 : w.heap[b0]? = some (.cells #[vp] t0 (0, 0))) (e1 : w.heap[b1]? = some (.cells #[vq] t1 (0, 0))) (e2 : w.heap[b2]? = some (.cells #[vr] t2 (0, 0))) :
    CallsD Tryz.prog 73 #[.pointer (some ⟨b0, 0, none⟩), .pointer (some ⟨b1, 0, none⟩), .pointer (some ⟨b2, 0, none⟩)] (.panicking [{ v := .iface 131 (.agg #[.int .i64 (k : Nat)]), recovered := false }]) w fun e u' w' => e = .returned (.tuple #[]) ∧ u' = .panicking [{ v := .iface 131 (.agg #[.int .i64 (k : Nat)]), recovered := true }] ∧ Fr [b0, b1, b2] w w' ∧ w'.heap[b0]? = some (.cells #[.slice none 0 0] t0 (0, 0)) ∧ w'.heap[b1]? = some (.cells #[.int .i64 (k : Nat)] t1 (0, 0)) ∧ w'.heap[b2]? = some (.cells #[.int .i64 60] t2 (0, 0)) := by
  refine callsD_of_wpS Tryz.func73 rfl fun c₀ cs hu => ?_
  apply wpS_seq
  apply wpS_region
  simp [wpOpsS, go_sem, recoverD, hu, Tryz.ntmps73, Exit.thenS]
  apply wpS_of_wp
  refine wp_tmps (Y := #[.pointer (some ⟨b0, 0, none⟩), .pointer (some ⟨b1, 0, none⟩), .pointer (some ⟨b2, 0, none⟩), undef, undef, undef, .iface 131 (.agg #[.int .i64 (k : Nat)]), undef, undef, undef, undef, undef, undef, undef]) rfl ?_
  have ha := assert74 (.agg #[.int .i64 (k : Nat)]) w
  go_wp2
  have gA : Fr [b0, b1, b2] w (w.alloc (.cells #[.int .i64 (k : Nat)] 131)) := (Fr.refl _ _).alloc _
  have bA : (w.alloc (.cells #[.int .i64 (k : Nat)] 131)).heap[w.heap.size]? = some (.cells #[.int .i64 (k : Nat)] 131 (0, 0)) := heap_alloc_new w _
  have kp : ∀ {j : Nat} {o : Obj}, w.heap[j]? = some o → (w.alloc (.cells #[.int .i64 (k : Nat)] 131)).heap[j]? = some o := fun h => (((Fr.refl [] w).alloc _).block _ (Array.getElem?_eq_some_iff.1 h).1 (by simp)).trans h
  have lt : ∀ {j : Nat} {o : Obj}, w.heap[j]? = some o → j ≠ w.heap.size := fun h => by have := (Array.getElem?_eq_some_iff.1 h).1; omega
  have n0 := lt e0
  have n1 := lt e1
  have n2 := lt e2
  have E0 := kp e0
  have E1 := kp e1
  have E2 := kp e2
  generalize hN : w.heap.size = N at *
  generalize w.alloc (.cells #[.int .i64 (k : Nat)] 131) = Y at *
  have ca := at_cells bA 0 rfl
  have c0 := at_cells E0 0 rfl
  have c1 := at_cells E1 0 rfl
  have c2 := at_cells E2 0 rfl
  have z0 : Y.frozen? ⟨b0, 0, none⟩ = false := by simp [World.frozen?, E0]
  have z1 : Y.frozen? ⟨b1, 0, none⟩ = false := by simp [World.frozen?, E1]
  have z2 : Y.frozen? ⟨b2, 0, none⟩ = false := by simp [World.frozen?, E2]
  go_region
  refine ⟨rfl, _, rfl, .tuple #[], by simp [results, Tryz.results73], rfl, rfl, ?_, ?_, ?_, ?_⟩
  · exact (((gA.setCell (.inl (by simp)) _).setCell (.inl (by simp)) _).setCell (.inl (by simp)) _).drew
  · exact set_other h02 (set_other h01 (set_same E0))
  · exact set_other h12 (set_same (set_other (Ne.symm h01) E1))
  · exact set_same (set_other (Ne.symm h12) (set_other (Ne.symm h02) E2))

/-- The world in which the parser begins. -/
def begin7 (tg n tc : Nat) (w : World) : World :=
  ((((((w.alloc (.cells #[.slice none 0 0] 23)).alloc (.cells #[.int .i64 0] 3)).alloc (.cells #[.int .i64 0] 29)).alloc (.map (EsR declM 0).toArray 2)).alloc (.map (EsR stmtM 0).toArray 7)).alloc (.map (EsR firstM 0).toArray 12)).alloc (.cells #[.slice (some ⟨tg, 0, none⟩) n tc, .int .i64 0, .slice none 0 0, .map (some (w.heap.size + 1 + 1 + 1)), .map (some (w.heap.size + 1 + 1 + 1 + 1)), .map (some (w.heap.size + 1 + 1 + 1 + 1 + 1))] 135)

theorem keep_alloc {w : World} {k : Nat} {o u : Obj} (h : w.heap[k]? = some o) : (w.alloc u).heap[k]? = some o := (((Fr.refl [] w).alloc u).block _ (Array.getElem?_eq_some_iff.1 h).1 (by simp)).trans h
theorem new_alloc {w : World} {k : Nat} (u : Obj) (h : k = w.heap.size) : (w.alloc u).heap[k]? = some u := by subst h; exact heap_alloc_new w u
theorem begin7_fr (tg n tc : Nat) (w : World) : Fr [] w (begin7 tg n tc w) := (((((((Fr.refl _ _).alloc _).alloc _).alloc _).alloc _).alloc _).alloc _).alloc _
theorem begin7_b (tg n tc : Nat) (w : World) :
    (begin7 tg n tc w).heap[w.heap.size]? = some (.cells #[.slice none 0 0] 23 (0, 0)) ∧ (begin7 tg n tc w).heap[w.heap.size + 1]? = some (.cells #[.int .i64 0] 3 (0, 0)) ∧ (begin7 tg n tc w).heap[w.heap.size + 1 + 1]? = some (.cells #[.int .i64 0] 29 (0, 0)) ∧ (begin7 tg n tc w).heap[w.heap.size + 1 + 1 + 1]? = some (.map (EsR declM 0).toArray 2) ∧ (begin7 tg n tc w).heap[w.heap.size + 1 + 1 + 1 + 1]? = some (.map (EsR stmtM 0).toArray 7) ∧ (begin7 tg n tc w).heap[w.heap.size + 1 + 1 + 1 + 1 + 1]? = some (.map (EsR firstM 0).toArray 12) ∧ (begin7 tg n tc w).heap[w.heap.size + 1 + 1 + 1 + 1 + 1 + 1]? = some (.cells #[.slice (some ⟨tg, 0, none⟩) n tc, .int .i64 0, .slice none 0 0, .map (some (w.heap.size + 1 + 1 + 1)), .map (some (w.heap.size + 1 + 1 + 1 + 1)), .map (some (w.heap.size + 1 + 1 + 1 + 1 + 1))] 135 (0, 0)) ∧ (begin7 tg n tc w).heap.size = w.heap.size + 7 := by
  unfold begin7
  refine ⟨?_, ?_, ?_, ?_, ?_, ?_, ?_, by simp [World.size_alloc]⟩
  · exact keep_alloc (keep_alloc (keep_alloc (keep_alloc (keep_alloc (keep_alloc (new_alloc _ rfl))))))
  · exact keep_alloc (keep_alloc (keep_alloc (keep_alloc (keep_alloc (new_alloc _ (by simp [World.size_alloc]))))))
  · exact keep_alloc (keep_alloc (keep_alloc (keep_alloc (new_alloc _ (by simp [World.size_alloc])))))
  · exact keep_alloc (keep_alloc (keep_alloc (new_alloc _ (by simp [World.size_alloc]))))
  · exact keep_alloc (keep_alloc (new_alloc _ (by simp [World.size_alloc])))
  · exact keep_alloc (new_alloc _ (by simp [World.size_alloc]))
  · exact new_alloc _ (by simp [World.size_alloc])
def own7 (tg N : Nat) : List Nat := [tg, N + 1 + 1 + 1, N + 1 + 1 + 1 + 1, N + 1 + 1 + 1 + 1 + 1, N + 1 + 1 + 1 + 1 + 1 + 1]
theorem begin7_ps {ts : List Tok} (hT : Toks ts) {tg tc B : Nat} {w : World} (hR : TRow w tg ts) (hB : B ≤ tg) (hlo : 7 ≤ B) (hBw : B ≤ w.heap.size) (htl : ts.length ≤ 200001) (htc : ts.length ≤ tc) :
    PS ts B (w.heap.size + 1 + 1 + 1 + 1 + 1 + 1) (own7 tg w.heap.size) 0 [] (begin7 tg ts.length tc w) := by
  obtain ⟨h0, h1, h2, h3, h4, h5, h6, hs⟩ := begin7_b tg ts.length tc w
  obtain ⟨c, z, hr1, hr2⟩ := hR
  have hlt := (Array.getElem?_eq_some_iff.1 hr1).1
  refine ⟨⟨tg, tc, .slice none 0 0, _, _, _, [], h6, htc, by simp [own7], ⟨c, z, ((begin7_fr tg ts.length tc w).block _ hlt (by simp)).trans hr1, hr2⟩, by simp [own7], h3, by simp [own7], h4, by simp [own7], h5, ?_⟩, by simp [own7], ?_, hlo, htl, hT.pos⟩
  · exact ⟨rfl, World.ownsRow_nil _ _ _ _, by simp [Value.ownBlock], by simp⟩
  · intro j hj
    simp [own7] at hj
    rw [hs]
    omega

theorem KRow.fr {w w' : World} {F S : List Nat} {m : MN} (h : KRow w F m) (f : Fr S w w') (hS : ∀ k ∈ S, k ∉ F) : KRow w' F m := by
  obtain ⟨k1, k2, k3⟩ := h
  refine ⟨k1, k2, fun j k hk => ?_⟩
  obtain ⟨b, o, c, z, e1, e2, e3, e4⟩ := k3 j k hk
  exact ⟨b, o, c, z, e1, e2, (f.block _ (Array.getElem?_eq_some_iff.1 e3).1 (fun hm => hS _ hm e2)).trans e3, e4⟩

def ReadPost (ts : List Tok) (B tg : Nat) (w : World) : Except Nat (List Nat × Nat × List PN) → Ending → World → Prop
  | .ok (_, _, ms), e, w' => ∃ (nv : Value) (L : List MN) (F' : List Nat), e = .returned (.tuple #[nv, .int .i64 0, .int .i64 0]) ∧ L.map MN.x = ms ∧ w'.ownsRow B 55 4 nv L.length (flatM L) ∧ (∀ k, nv.ownBlock = some k → k ∈ F') ∧ (∀ m ∈ L, KRow w' F' m) ∧ (∀ j ∈ F', B ≤ j ∧ j < w'.heap.size) ∧ Fr [tg] w w'
  | .error k, e, w' => e = .returned (.tuple #[.slice none 0 0, .int .i64 ((tk ts k).frm : Nat), .int .i64 60]) ∧ Fr [tg] w w'

set_option maxRecDepth 100000 in
set_option maxHeartbeats 1000000 in
theorem parsed_any {ts : List Tok} (hT : Toks ts) {tg tc B f : Nat} {w : World} (T0 : Tabs w) (hR : TRow w tg ts) (hB : B ≤ tg) (hlo : 7 ≤ B) (hBw : B ≤ w.heap.size) (htl : ts.length ≤ 200001) (htc : ts.length ≤ tc) {r : Except Nat (List Nat × Nat × List PN)} (hP : P ts f .prog 0 [] = some r) :
    Calls Tryz.prog 42 #[.slice (some ⟨tg, 0, none⟩) ts.length tc] w (ReadPost ts B tg w r) := by
  have hmf : ∀ (fn : Fn) (first cap : Array Value) (w : World), (Instr.makeFunc fn first cap).run Tryz.prog w = .ok (.func fn first cap) w := fun _ _ _ _ => rfl
  have hps := begin7_ps hT hR hB hlo hBw htl htc
  have hb7 := begin7_b tg ts.length tc w
  have f7 := begin7_fr tg ts.length tc w
  have hlt : tg < w.heap.size := by obtain ⟨c, z, hr1, hr2⟩ := hR; exact (Array.getElem?_eq_some_iff.1 hr1).1
  have T7 : Tabs (begin7 tg ts.length tc w) := T0.fr f7 (by simp)
  have C := hyp_all (B := B) (pb := w.heap.size + 1 + 1 + 1 + 1 + 1 + 1) hT f f .prog 0 [] _ _ r (Nat.le_refl _) hps T7 trivial (by simp) hP
  simp only [Ctr, ptr] at C
  go_enter_defers Tryz.func42, Tryz.ntmps42
  go_wp2_with (first | (go_at_call 74; refine (decls_any _).mono ?_; rintro e w' ⟨rfl, rfl⟩) | (go_at_call 75; refine (stmts_any _).mono ?_; rintro e w' ⟨rfl, rfl⟩) | (go_at_call 76; refine (firsts_any _).mono ?_; rintro e w' ⟨rfl, rfl⟩))
  refine C.mono ?_
  clear C hmf
  obtain ⟨e0, e1, e2, -, -, -, -, hs7⟩ := hb7
  rcases r with k | ⟨v, j, ms⟩
  · rintro e W ⟨rfl, fW⟩
    have E0 := (fW.block _ (Array.getElem?_eq_some_iff.1 e0).1 (by simp [own7]; omega)).trans e0
    have E1 := (fW.block _ (Array.getElem?_eq_some_iff.1 e1).1 (by simp [own7]; omega)).trans e1
    have E2 := (fW.block _ (Array.getElem?_eq_some_iff.1 e2).1 (by simp [own7]; omega)).trans e2
    refine leaves_cons (f := 73) (args := #[.pointer (some ⟨w.heap.size, 0, none⟩), .pointer (some ⟨w.heap.size + 1, 0, none⟩), .pointer (some ⟨w.heap.size + 1 + 1, 0, none⟩)]) (by simp) (by simp [go_sem]) ?_
    refine (catch_thrown _ _ _ (tk ts k).frm W _ _ _ _ _ _ (by omega) (by omega) (by omega) E0 E1 E2).mono ?_
    rintro e u' w'' ⟨rfl, rfl, fz, g0, g1, g2⟩
    have c0 := at_cells g0 0 rfl
    have c1 := at_cells g1 0 rfl
    have c2 := at_cells g2 0 rfl
    simp [Leaves, settle, results, Tryz.results42, go_sem, c0, c1, c2]
    refine ⟨rfl, ?_⟩
    have g7 : Fr ([w.heap.size, w.heap.size + 1, w.heap.size + 1 + 1] ++ own7 tg w.heap.size) w w'' := ((f7.sub (by simp)).trans (fW.sub (fun k hk => .inl (List.mem_append_right _ hk)))).trans (fz.sub (fun k hk => .inl (List.mem_append_left _ hk)))
    exact g7.sub (fun k hk => by simp [own7] at hk ⊢; omega)
  · rintro e W ⟨rfl, F', hps', tr⟩
    have NI : ∀ b, w.heap.size ≤ b → b < w.heap.size + 1 + 1 + 1 → b ∉ F' := fun b h1 h2 => tr.notin (by simp [own7]; omega) (by omega)
    have n0 := NI _ (Nat.le_refl _) (by omega)
    have n1 := NI (w.heap.size + 1) (by omega) (by omega)
    have n2 := NI (w.heap.size + 1 + 1) (by omega) (by omega)
    have E0 := (tr.f.block _ (Array.getElem?_eq_some_iff.1 e0).1 (by simp [own7]; omega)).trans e0
    have E1 := (tr.f.block _ (Array.getElem?_eq_some_iff.1 e1).1 (by simp [own7]; omega)).trans e1
    have E2 := (tr.f.block _ (Array.getElem?_eq_some_iff.1 e2).1 (by simp [own7]; omega)).trans e2
    have f8 : Fr [tg] w W := ((f7.sub (T := own7 tg w.heap.size) (by simp)).trans tr.f).sub (fun k hk => by simp [own7] at hk ⊢; omega)
    obtain ⟨tg', tc', nv, bd, bs, bf, L, hpb, -, -, -, -, -, -, -, -, -, hL, hown, hob, hkr⟩ := hps'.ex
    obtain ⟨sa, sc, rfl, -⟩ := own_slice hown
    have cp := at_cells hpb 2 rfl
    have c0 := at_cells E0 0 rfl
    have c1 := at_cells E1 0 rfl
    have c2 := at_cells E2 0 rfl
    have z0 : W.frozen? ⟨w.heap.size, 0, none⟩ = false := by simp [World.frozen?, E0]
    have z1 : W.frozen? ⟨w.heap.size + 1, 0, none⟩ = false := by simp [World.frozen?, E1]
    have z2 : W.frozen? ⟨w.heap.size + 1 + 1, 0, none⟩ = false := by simp [World.frozen?, E2]
    clear T0 T7 hP hR
    go_wp2
    have f9 : Fr [w.heap.size, w.heap.size + 1, w.heap.size + 1 + 1] W (((W.setCell ⟨w.heap.size, 0, none⟩ (.slice sa L.length sc)).setCell ⟨w.heap.size + 1, 0, none⟩ (.int .i64 0)).setCell ⟨w.heap.size + 1 + 1, 0, none⟩ (.int .i64 0)) := (((Fr.refl _ _).setCell (.inl (by simp)) _).setCell (.inl (by simp)) _).setCell (.inl (by simp)) _
    have g0 := set_other (v := .int .i64 0) (show w.heap.size ≠ w.heap.size + 1 + 1 by omega) (set_other (v := .int .i64 0) (show w.heap.size ≠ w.heap.size + 1 by omega) (set_same (v := .slice sa L.length sc) E0))
    have g1 := set_other (v := .int .i64 0) (show w.heap.size + 1 ≠ w.heap.size + 1 + 1 by omega) (set_same (v := .int .i64 0) (set_other (v := .slice sa L.length sc) (show w.heap.size + 1 ≠ w.heap.size by omega) E1))
    have g2 := set_same (v := .int .i64 0) (set_other (v := .int .i64 0) (show w.heap.size + 1 + 1 ≠ w.heap.size + 1 by omega) (set_other (v := .slice sa L.length sc) (show w.heap.size + 1 + 1 ≠ w.heap.size by omega) E2))
    generalize ((W.setCell ⟨w.heap.size, 0, none⟩ (.slice sa L.length sc)).setCell ⟨w.heap.size + 1, 0, none⟩ (.int .i64 0)).setCell ⟨w.heap.size + 1 + 1, 0, none⟩ (.int .i64 0) = W9 at *
    refine leaves_cons (f := 73) (args := #[.pointer (some ⟨w.heap.size, 0, none⟩), .pointer (some ⟨w.heap.size + 1, 0, none⟩), .pointer (some ⟨w.heap.size + 1 + 1, 0, none⟩)]) (by simp) (by simp [go_sem]) ?_
    refine (catch_idle _ _ _ _).mono ?_
    rintro e u' w'' ⟨rfl, rfl, rfl⟩
    have d0 := at_cells g0 0 rfl
    have d1 := at_cells g1 0 rfl
    have d2 := at_cells g2 0 rfl
    simp [Leaves, settle, results, Tryz.results42, go_sem, d0, d1, d2]
    have hn : ∀ k, k ∈ [w.heap.size, w.heap.size + 1, w.heap.size + 1 + 1] → k ∉ F' := fun k hk => by
      simp at hk
      rcases hk with rfl | rfl | rfl
      · exact n0
      · exact n1
      · exact n2
    refine ⟨_, L, F', rfl, hL, own_fr hown f9 (fun k hk hm => hn k hm (hob k hk)), hob, fun m hm => (hkr m hm).fr f9 hn, fun j hj => ⟨(hps'.fb j hj).1, Nat.lt_of_lt_of_le (hps'.fb j hj).2 f9.size⟩, ?_⟩
    have g7 : Fr ([w.heap.size, w.heap.size + 1, w.heap.size + 1 + 1] ++ [tg]) w w'' := (f8.sub (fun k hk => .inl (List.mem_append_right _ hk))).trans (f9.sub (fun k hk => .inl (List.mem_append_left _ hk)))
    exact g7.sub (fun k hk => by simp at hk ⊢; omega)
end Go.Proofs.YtnmfcaahdeddnaaGreatDoor
namespace Go.Proofs.YtnmfcaahdeddnaaGreatDoor
open Go.RowKit
set_option linter.unusedVariables false
set_option linter.unusedSimpArgs false

def stepO (s : List UInt8) (o : Nat) : Nat := if s = [40] ∨ s = [91] ∨ s = [123] then o + 1 else if s = [41] ∨ s = [93] ∨ s = [125] then o - 1 else o
def tooO : List Tok → Nat → Option Nat
  | [], _ => none
  | t :: r, o => if 150 < stepO t.text o then some t.frm else tooO r (stepO t.text o)
def TooV : Option Nat → Value
  | none => .tuple #[.int .i64 0, .bool false]
  | some p => .tuple #[.int .i64 (p : Nat), .bool true]

theorem TRow.fr {w w' : World} {g : Nat} {ts : List Tok} {S : List Nat} (h : TRow w g ts) (f : Fr S w w') (hg : g ∉ S) : TRow w' g ts := by
  obtain ⟨c, z, h1, h2⟩ := h
  exact ⟨c, z, (f.block _ (Array.getElem?_eq_some_iff.1 h1).1 hg).trans h1, h2⟩
theorem tooO_drop {ts : List Tok} {p o : Nat} (h : p < ts.length) : tooO (ts.drop p) o = if 150 < stepO (tk ts p).text o then some (tk ts p).frm else tooO (ts.drop (p + 1)) (stepO (tk ts p).text o) := by
  have : ts.drop p = tk ts p :: ts.drop (p + 1) := by
    have e := tk_get h
    rw [List.getElem?_eq_getElem h] at e
    rw [← Option.some.inj e]
    exact List.drop_eq_getElem_cons h
  rw [this]
  rfl

set_option maxRecDepth 100000 in
set_option maxHeartbeats 1000000 in
theorem too_any {ts : List Tok} {tg tc : Nat} {w : World} (hR : TRow w tg ts) (htl : ts.length ≤ 200001) (htc : ts.length ≤ tc) :
    Calls Tryz.prog 41 #[.slice (some ⟨tg, 0, none⟩) ts.length tc] w fun e w' => e = .returned (TooV (tooO ts 0)) ∧ Fr [] w w' := by
  have HR : Hid (TRow w tg ts) := hR
  clear hR
  go_enter Tryz.func41, Tryz.ntmps41
  go_wp2
  go_loopw [4, 9] (fun o i wr => ∃ p q : Nat, p ≤ ts.length ∧ i = .int .i64 p ∧ o = .int .i64 q ∧ q ≤ 150 ∧ Fr [] w wr ∧ Hid (tooO (ts.drop p) q = tooO ts 0)) (fun _ i _ => ts.length - (intOf i).toNat)
  case atStart => exact ⟨0, 0, Nat.zero_le _, rfl, rfl, by omega, Fr.refl _ _, rfl⟩
  case round =>
    obtain ⟨p, q, hp, rfl, rfl, hq, fw, HE⟩ := hrel
    by_cases hlt : p < ts.length
    · have hRr := HR.out.fr fw (by simp)
      have c0 := hRr.cell hlt (j := 0) (by omega) (u := .int .i64 ((tk ts p).kind : Nat)) rfl
      have c1 := hRr.cell hlt (j := 1) (by omega) (u := .string ⟨(tk ts p).text.toArray⟩) rfl
      have c2 := hRr.cell hlt (j := 2) (by omega) (u := .int .i64 ((tk ts p).frm : Nat)) rfl
      have c3 := hRr.cell hlt (j := 3) (by omega) (u := .int .i64 ((tk ts p).to : Nat)) rfl
      have c4 := hRr.cell hlt (j := 4) (by omega) (u := .int .i64 ((tk ts p).n : Nat)) rfl
      simp only [Nat.add_zero] at c0
      have HS : Hid (tooO ts 0 = if 150 < stepO (tk ts p).text q then some (tk ts p).frm else tooO (ts.drop (p + 1)) (stepO (tk ts p).text q)) := HE.out.symm.trans (tooO_drop hlt)
      generalize tk ts p = t at *
      clear hRr HE
      have hl2 : (p : Int) < (ts.length : Int) := by omega
      cases h40 : (t.text == [40]) with
      | true =>
        have y40 : t.text = [40] := eq_of_beq h40
        have HO : Hid (stepO t.text q = q + 1) := by unfold Hid stepO; rw [if_pos (by simp [y40])]
        clear y40
        by_cases h150 : (q : Int) + 1 ≤ 150
        · go_wp2
          go_roundw
          case rel => exact ⟨p + 1, q + 1, by omega, by go_num, by go_num, by omega, fw.alloc _, by unfold Hid; have e := HS.out; rw [HO.out, if_neg (by omega)] at e; exact e.symm⟩
          case measure => simp [intOf]; omega
        · have h151 : (150 : Int) < (q : Int) + 1 := by omega
          go_wp2
          have HV : Hid (tooO ts 0 = some t.frm) := by unfold Hid; have e := HS.out; rw [HO.out, if_pos (by omega)] at e; exact e
          refine bodyPost_ret (results_tmp2 rfl _ _ _) rfl ⟨?_, fw.alloc _⟩
          rw [HV.out]
          rfl
      | false =>
        cases h91 : (t.text == [91]) with
        | true =>
          have x40 : ¬ t.text = [40] := fun e => by rw [e] at h40; exact absurd h40 (by decide)
          have y91 : t.text = [91] := eq_of_beq h91
          have HO : Hid (stepO t.text q = q + 1) := by unfold Hid stepO; rw [if_pos (by simp [y91])]
          clear x40 y91
          by_cases h150 : (q : Int) + 1 ≤ 150
          · go_wp2
            go_roundw
            case rel => exact ⟨p + 1, q + 1, by omega, by go_num, by go_num, by omega, fw.alloc _, by unfold Hid; have e := HS.out; rw [HO.out, if_neg (by omega)] at e; exact e.symm⟩
            case measure => simp [intOf]; omega
          · have h151 : (150 : Int) < (q : Int) + 1 := by omega
            go_wp2
            have HV : Hid (tooO ts 0 = some t.frm) := by unfold Hid; have e := HS.out; rw [HO.out, if_pos (by omega)] at e; exact e
            refine bodyPost_ret (results_tmp2 rfl _ _ _) rfl ⟨?_, fw.alloc _⟩
            rw [HV.out]
            rfl
        | false =>
          cases h123 : (t.text == [123]) with
          | true =>
            have x40 : ¬ t.text = [40] := fun e => by rw [e] at h40; exact absurd h40 (by decide)
            have x91 : ¬ t.text = [91] := fun e => by rw [e] at h91; exact absurd h91 (by decide)
            have y123 : t.text = [123] := eq_of_beq h123
            have HO : Hid (stepO t.text q = q + 1) := by unfold Hid stepO; rw [if_pos (by simp [y123])]
            clear x40 x91 y123
            by_cases h150 : (q : Int) + 1 ≤ 150
            · go_wp2
              go_roundw
              case rel => exact ⟨p + 1, q + 1, by omega, by go_num, by go_num, by omega, fw.alloc _, by unfold Hid; have e := HS.out; rw [HO.out, if_neg (by omega)] at e; exact e.symm⟩
              case measure => simp [intOf]; omega
            · have h151 : (150 : Int) < (q : Int) + 1 := by omega
              go_wp2
              have HV : Hid (tooO ts 0 = some t.frm) := by unfold Hid; have e := HS.out; rw [HO.out, if_pos (by omega)] at e; exact e
              refine bodyPost_ret (results_tmp2 rfl _ _ _) rfl ⟨?_, fw.alloc _⟩
              rw [HV.out]
              rfl
          | false =>
            cases h41 : (t.text == [41]) with
            | true =>
              have x40 : ¬ t.text = [40] := fun e => by rw [e] at h40; exact absurd h40 (by decide)
              have x91 : ¬ t.text = [91] := fun e => by rw [e] at h91; exact absurd h91 (by decide)
              have x123 : ¬ t.text = [123] := fun e => by rw [e] at h123; exact absurd h123 (by decide)
              have y41 : t.text = [41] := eq_of_beq h41
              have HO : Hid (stepO t.text q = q - 1) := by unfold Hid stepO; rw [if_neg (by simp [y41]), if_pos (by simp [y41])]
              clear x40 x91 x123 y41
              have hm : max ((q : Int) - 1) 0 ≤ 150 := by omega
              go_wp2
              go_roundw
              case rel => exact ⟨p + 1, q - 1, by omega, by go_num, by congr 1; omega, by omega, fw.alloc _, by unfold Hid; have e := HS.out; rw [HO.out, if_neg (by omega)] at e; exact e.symm⟩
              case measure => simp [intOf]; omega
            | false =>
              cases h93 : (t.text == [93]) with
              | true =>
                have x40 : ¬ t.text = [40] := fun e => by rw [e] at h40; exact absurd h40 (by decide)
                have x91 : ¬ t.text = [91] := fun e => by rw [e] at h91; exact absurd h91 (by decide)
                have x123 : ¬ t.text = [123] := fun e => by rw [e] at h123; exact absurd h123 (by decide)
                have x41 : ¬ t.text = [41] := fun e => by rw [e] at h41; exact absurd h41 (by decide)
                have y93 : t.text = [93] := eq_of_beq h93
                have HO : Hid (stepO t.text q = q - 1) := by unfold Hid stepO; rw [if_neg (by simp [y93]), if_pos (by simp [y93])]
                clear x40 x91 x123 x41 y93
                have hm : max ((q : Int) - 1) 0 ≤ 150 := by omega
                go_wp2
                go_roundw
                case rel => exact ⟨p + 1, q - 1, by omega, by go_num, by congr 1; omega, by omega, fw.alloc _, by unfold Hid; have e := HS.out; rw [HO.out, if_neg (by omega)] at e; exact e.symm⟩
                case measure => simp [intOf]; omega
              | false =>
                cases h125 : (t.text == [125]) with
                | true =>
                  have x40 : ¬ t.text = [40] := fun e => by rw [e] at h40; exact absurd h40 (by decide)
                  have x91 : ¬ t.text = [91] := fun e => by rw [e] at h91; exact absurd h91 (by decide)
                  have x123 : ¬ t.text = [123] := fun e => by rw [e] at h123; exact absurd h123 (by decide)
                  have x41 : ¬ t.text = [41] := fun e => by rw [e] at h41; exact absurd h41 (by decide)
                  have x93 : ¬ t.text = [93] := fun e => by rw [e] at h93; exact absurd h93 (by decide)
                  have y125 : t.text = [125] := eq_of_beq h125
                  have HO : Hid (stepO t.text q = q - 1) := by unfold Hid stepO; rw [if_neg (by simp [y125]), if_pos (by simp [y125])]
                  clear x40 x91 x123 x41 x93 y125
                  have hm : max ((q : Int) - 1) 0 ≤ 150 := by omega
                  go_wp2
                  go_roundw
                  case rel => exact ⟨p + 1, q - 1, by omega, by go_num, by congr 1; omega, by omega, fw.alloc _, by unfold Hid; have e := HS.out; rw [HO.out, if_neg (by omega)] at e; exact e.symm⟩
                  case measure => simp [intOf]; omega
                | false =>
                  have x40 : ¬ t.text = [40] := fun e => by rw [e] at h40; exact absurd h40 (by decide)
                  have x91 : ¬ t.text = [91] := fun e => by rw [e] at h91; exact absurd h91 (by decide)
                  have x123 : ¬ t.text = [123] := fun e => by rw [e] at h123; exact absurd h123 (by decide)
                  have x41 : ¬ t.text = [41] := fun e => by rw [e] at h41; exact absurd h41 (by decide)
                  have x93 : ¬ t.text = [93] := fun e => by rw [e] at h93; exact absurd h93 (by decide)
                  have x125 : ¬ t.text = [125] := fun e => by rw [e] at h125; exact absurd h125 (by decide)
                  have HO : Hid (stepO t.text q = q) := by unfold Hid stepO; rw [if_neg (by simp [x40, x91, x123]), if_neg (by simp [x41, x93, x125])]
                  clear x40 x91 x123 x41 x93 x125
                  have hm : (q : Int) ≤ 150 := by omega
                  go_wp2
                  go_roundw
                  case rel => exact ⟨p + 1, q, by omega, by go_num, rfl, by omega, fw.alloc _, by unfold Hid; have e := HS.out; rw [HO.out, if_neg (by omega)] at e; exact e.symm⟩
                  case measure => simp [intOf]; omega
    · have hpe : p = ts.length := by omega
      subst hpe
      have HV : Hid (tooO ts 0 = none) := by unfold Hid; rw [← HE.out, List.drop_of_length_le (Nat.le_refl _)]; rfl
      have hl2 : ¬ ((ts.length : Int) < (ts.length : Int)) := by omega
      go_wp2
      refine bodyPost_ret (results_tmp2 rfl _ _ _) rfl ⟨?_, fw⟩
      rw [HV.out]
      rfl
end Go.Proofs.YtnmfcaahdeddnaaGreatDoor
namespace Go.Proofs.YtnmfcaahdeddnaaGreatDoor.T5
open Go.RowKit
set_option maxRecDepth 100000
set_option linter.unusedSimpArgs false

/-- A node: kind, text, where its kids' row lies and its room, the kids' numbers, place. -/
structure Nd where
  kind : Int
  text : ByteArray
  a : Option Addr
  c : Nat
  ks : List Int
  pl : Int

/-- Which kinds a letter takes; how many of the first kinds it takes; a small letter. -/
def kfit (c : Nat) (k : Int) : Bool :=
  if c = 98 then k == 4 else if c = 99 then k == 22 else if c = 100 then (k == 2 || k == 3) else if c = 101 then decide (15 ≤ k ∧ k ≤ 30)
  else if c = 110 then k == 17 else if c = 111 then (k == 4 || k == 14) else if c = 112 then (k == 17 || k == 20 || k == 21 || k == 30) else if c = 115 then decide (5 ≤ k ∧ k ≤ 13) else false
def cfit (c : Nat) : List Int → Nat
  | [] => 0
  | k :: r => if kfit c k then cfit c r + 1 else 0
def hfit (c : Nat) : List Int → Bool
  | [] => false
  | k :: _ => kfit c k
def lowN (c : Nat) : Nat := if 65 ≤ c ∧ c ≤ 90 then c + 32 else c
/-- Whether kinds are those that letters want. -/
def fitL : List UInt8 → List Int → Bool
  | [], ks => ks.isEmpty
  | c :: r, ks => if lowN c.toNat = c.toNat then (hfit c.toNat ks && fitL r (ks.drop 1)) else fitL r (ks.drop (cfit (lowN c.toNat) ks))

theorem cfit_le (c : Nat) (ks : List Int) : cfit c ks ≤ ks.length := by
  induction ks with
  | nil => simp [cfit]
  | cons k r ih => simp only [cfit, List.length_cons]; split <;> omega

/-- What a kind wants: which text, which kids. -/
def wantsL : List (Int × Nat × List UInt8) := [(1, 0, [68]), (2, 1, [78]), (3, 1, [78, 98]), (4, 0, [83]), (5, 1, [101]), (6, 0, [112, 101]), (7, 0, [101, 98, 111]), (8, 0, [101, 98]), (9, 0, [101]), (10, 0, [101]), (11, 0, [101]), (12, 0, [99]), (13, 0, [78]), (14, 0, []), (15, 2, []), (16, 0, []), (17, 1, []), (18, 3, [101]), (19, 4, [101, 101]), (20, 1, [101]), (21, 0, [101, 101]), (22, 1, [69]), (23, 1, []), (24, 0, [101]), (25, 0, [101]), (26, 0, []), (27, 0, [101]), (28, 0, []), (29, 0, [101]), (30, 0, [])]
def wantL (k : Int) : Option (Nat × List UInt8) := wantsL.lookup k

/-- The document's table of kids. -/
def isEx (k : Int) : Bool := decide (15 ≤ k ∧ k ≤ 30)
def isSt (k : Int) : Bool := decide (5 ≤ k ∧ k ≤ 13)
def shapeL (kind : Int) (ks : List Int) : Bool :=
  if kind = 1 then ks.all (fun k => k == 2 || k == 3)
  else if kind = 2 ∨ kind = 13 then ks.all (· == 17)
  else if kind = 3 then decide (0 < ks.length) && (ks.take (ks.length - 1)).all (· == 17) && decide (ks.getLastD 0 = 4)
  else if kind = 4 then ks.all isSt
  else if kind = 5 ∨ kind = 9 ∨ kind = 10 ∨ kind = 11 ∨ kind = 18 ∨ kind = 20 ∨ kind = 24 ∨ kind = 25 ∨ kind = 27 ∨ kind = 29 then ks.all isEx && decide (ks.length = 1)
  else if kind = 6 then ks.all isEx && decide (ks.length = 2) && (ks.headD 0 == 17 || ks.headD 0 == 20 || ks.headD 0 == 21 || ks.headD 0 == 30)
  else if kind = 7 then decide (ks.length = 3) && isEx (ks.getD 0 0) && (ks.getD 1 0 == 4) && (ks.getD 2 0 == 4 || ks.getD 2 0 == 14)
  else if kind = 8 then decide (ks.length = 2) && isEx (ks.getD 0 0) && (ks.getD 1 0 == 4)
  else if kind = 12 then decide (ks.length = 1) && (ks.getD 0 0 == 22)
  else if kind = 19 ∨ kind = 21 then ks.all isEx && decide (ks.length = 2)
  else if kind = 22 then ks.all isEx
  else if kind = 14 ∨ kind = 15 ∨ kind = 16 ∨ kind = 17 ∨ kind = 23 ∨ kind = 26 ∨ kind = 28 ∨ kind = 30 then decide (ks.length = 0)
  else false

theorem many (c : Nat) (ks : List Int) : (ks.drop (cfit c ks)).isEmpty = ks.all (kfit c) := by
  induction ks with
  | nil => rfl
  | cons k r ih =>
    simp only [cfit, List.all_cons]
    cases h : kfit c k with
    | true => simpa using ih
    | false => simp
theorem cfit0 (c : Nat) (ks : List Int) : cfit c ks ≠ 0 ↔ hfit c ks = true := by
  cases ks with
  | nil => simp [cfit, hfit]
  | cons k r =>
    simp only [cfit, hfit]
    by_cases h : kfit c k = true
    · simp [h]
    · simp [h]
theorem fn_fit (ks : List Int) : (hfit 98 (ks.drop (cfit 110 ks)) && ((ks.drop (cfit 110 ks)).drop 1).isEmpty) = (decide (0 < ks.length) && (ks.take (ks.length - 1)).all (· == 17) && decide (ks.getLastD 0 = 4)) := by
  induction ks with
  | nil => rfl
  | cons k r ih =>
    have e : kfit 110 k = (k == 17) := rfl
    have e' : kfit 98 k = (k == 4) := rfl
    simp only [cfit, e]
    cases h : (k == 17) with
    | true =>
      simp only [if_true, List.drop_succ_cons]
      rw [ih]
      have : k = 17 := by simpa using h
      subst this
      cases r with
      | nil => rfl
      | cons k2 r2 => simp
    | false =>
      simp only [Bool.false_eq_true, if_false, List.drop_zero, hfit, e', List.drop_succ_cons]
      cases r with
      | nil => cases h2 : (k == 4) <;> simp_all
      | cons k2 r2 => simp [h]

theorem lookup_want (k : Int) (h : k < 1 ∨ 30 < k) : wantL k = none := by
  have : ∀ l : List (Int × Nat × List UInt8), (∀ x ∈ l, x.1 ≠ k) → l.lookup k = none := by
    intro l hl
    induction l with
    | nil => rfl
    | cons x r ih =>
      obtain ⟨a, b⟩ := x
      have ha : a ≠ k := hl (a, b) (by simp)
      rw [List.lookup_cons]
      have : (k == a) = false := by simp; exact fun e => ha e.symm
      rw [this]
      exact ih (fun x hx => hl x (by simp [hx]))
  apply this
  intro x hx e
  have : ∀ x ∈ wantsL, 1 ≤ x.1 ∧ x.1 ≤ 30 := by decide
  have := this x hx
  omega

theorem shape_fit (k : Int) (t : Nat) (ls : List UInt8) (ks : List Int) (h : wantL k = some (t, ls)) : fitL ls ks = shapeL k ks := by
  have hk : 1 ≤ k ∧ k ≤ 30 := by
    refine Decidable.byContradiction fun hn => ?_
    rw [lookup_want k (by omega)] at h
    cases h
  have hc : k = 1 ∨ k = 2 ∨ k = 3 ∨ k = 4 ∨ k = 5 ∨ k = 6 ∨ k = 7 ∨ k = 8 ∨ k = 9 ∨ k = 10 ∨ k = 11 ∨ k = 12 ∨ k = 13 ∨ k = 14 ∨ k = 15 ∨ k = 16 ∨ k = 17 ∨ k = 18 ∨ k = 19 ∨ k = 20 ∨ k = 21 ∨ k = 22 ∨ k = 23 ∨ k = 24 ∨ k = 25 ∨ k = 26 ∨ k = 27 ∨ k = 28 ∨ k = 29 ∨ k = 30 := by omega
  have e1 : ∀ ks : List Int, fitL [101] ks = (ks.all isEx && decide (ks.length = 1)) := by
    intro ks
    match ks with
    | [] => rfl
    | [a] => simp [fitL, hfit, kfit, isEx, lowN]
    | a :: b :: r => simp [fitL, hfit, kfit, isEx, lowN]
  have e2 : ∀ ks : List Int, fitL [101, 101] ks = (ks.all isEx && decide (ks.length = 2)) := by
    intro ks
    match ks with
    | [] => rfl
    | [a] => simp [fitL, hfit, kfit, isEx, lowN]
    | [a, b] => simp [fitL, hfit, kfit, isEx, lowN]
    | a :: b :: c :: r => simp [fitL, hfit, kfit, isEx, lowN]
  have e3 : ∀ ks : List Int, fitL [101, 98] ks = (decide (ks.length = 2) && isEx (ks.getD 0 0) && (ks.getD 1 0 == 4)) := by
    intro ks
    match ks with
    | [] => rfl
    | [a] => simp [fitL, hfit, kfit, isEx, lowN]
    | [a, b] => simp [fitL, hfit, kfit, isEx, lowN]
    | a :: b :: c :: r => simp [fitL, hfit, kfit, isEx, lowN]
  have e4 : ∀ ks : List Int, fitL [101, 98, 111] ks = (decide (ks.length = 3) && isEx (ks.getD 0 0) && (ks.getD 1 0 == 4) && (ks.getD 2 0 == 4 || ks.getD 2 0 == 14)) := by
    intro ks
    match ks with
    | [] => rfl
    | [a] => simp [fitL, hfit, kfit, isEx, lowN]
    | [a, b] => simp [fitL, hfit, kfit, isEx, lowN]
    | [a, b, c] => simp [fitL, hfit, kfit, isEx, lowN, Bool.and_assoc]
    | a :: b :: c :: d :: r => simp [fitL, hfit, kfit, isEx, lowN]
  have e5 : ∀ ks : List Int, fitL [112, 101] ks = (ks.all isEx && decide (ks.length = 2) && (ks.headD 0 == 17 || ks.headD 0 == 20 || ks.headD 0 == 21 || ks.headD 0 == 30)) := by
    intro ks
    match ks with
    | [] => rfl
    | [a] => simp [fitL, hfit, kfit, isEx, lowN]
    | [a, b] =>
      simp [fitL, hfit, kfit, isEx, lowN]
      rw [Bool.eq_iff_iff]
      simp
      omega
    | a :: b :: c :: r => simp [fitL, hfit, kfit, isEx, lowN]
  have e6 : ∀ ks : List Int, fitL [99] ks = (decide (ks.length = 1) && (ks.getD 0 0 == 22)) := by
    intro ks
    match ks with
    | [] => rfl
    | [a] => simp [fitL, hfit, kfit, isEx, lowN]
    | a :: b :: r => simp [fitL, hfit, kfit, isEx, lowN]
  have e0 : ∀ ks : List Int, fitL [] ks = decide (ks.length = 0) := by
    intro ks
    cases ks <;> simp [fitL]
  rcases hc with rfl | rfl | rfl | rfl | rfl | rfl | rfl | rfl | rfl | rfl | rfl | rfl | rfl | rfl | rfl | rfl | rfl | rfl | rfl | rfl | rfl | rfl | rfl | rfl | rfl | rfl | rfl | rfl | rfl | rfl
  all_goals
    obtain ⟨rfl, rfl⟩ : t = _ ∧ ls = _ := by
      have := Option.some.inj h
      exact ⟨(congrArg Prod.fst this).symm, (congrArg Prod.snd this).symm⟩
    clear h
  case inr.inr.inl => exact fn_fit ks
  all_goals first
    | exact e0 ks
    | exact e1 ks
    | exact e2 ks
    | exact e3 ks
    | exact e4 ks
    | exact e5 ks
    | exact e6 ks
    | exact many 100 ks
    | exact many 110 ks
    | exact many 115 ks
    | exact many 101 ks
theorem fit_kind (ls : List UInt8) : ∀ ks : List Int, fitL ls ks = true → (1 : Int) ∉ ks := by
  have h1 : ∀ c, kfit c 1 = false := by
    intro c
    unfold kfit
    repeat (first | rfl | split)
  have hc : ∀ c (ks : List Int), (1 : Int) ∉ ks.take (cfit c ks) := by
    intro c ks
    induction ks with
    | nil => simp
    | cons k r ih =>
      simp only [cfit]
      cases h : kfit c k with
      | false => simp
      | true =>
        simp only [if_true, List.take_succ_cons, List.mem_cons, not_or]
        refine ⟨fun e => ?_, ih⟩
        rw [← e, h1] at h
        cases h
  induction ls with
  | nil => intro ks h; simp [fitL] at h; simp [h]
  | cons c r ih =>
    intro ks h
    simp only [fitL] at h
    split at h
    · simp only [Bool.and_eq_true] at h
      have h1' := (cfit0 _ _).2 h.1
      have h2 := ih _ h.2
      have h3 := hc c.toNat ks
      cases ks with
      | nil => simp
      | cons k q =>
        simp only [List.mem_cons, not_or]
        refine ⟨?_, by simpa using h2⟩
        have : cfit c.toNat (k :: q) = cfit c.toNat (k :: q) - 1 + 1 := by omega
        rw [this] at h3
        simp at h3
        exact h3.1
    · have h2 := ih _ h
      have h3 := hc (lowN c.toNat) ks
      rw [← List.take_append_drop (cfit (lowN c.toNat) ks) ks]
      simp only [List.mem_append, not_or]
      exact ⟨h3, h2⟩

/-- Numbers in a row. -/
def KAt (B : Nat) (w : World) (a : Option Addr) (ks : List Int) : Prop := ∀ (j : Nat) (k : Int), ks[j]? = some k → ∃ b o, a = some ⟨b, o, none⟩ ∧ b < B ∧ w.cell? ⟨b, o + j, none⟩ = some (.int .i64 k)
/-- A node's four cells. -/
structure NCell (B : Nat) (w : World) (b o : Nat) (x : Nd) : Prop where
  c0 : w.cell? ⟨b, o, none⟩ = some (.int .i64 x.kind)
  c1 : w.cell? ⟨b, o + 1, none⟩ = some (.string x.text)
  c2 : w.cell? ⟨b, o + 2, none⟩ = some (.slice x.a x.ks.length x.c)
  c3 : w.cell? ⟨b, o + 3, none⟩ = some (.int .i64 x.pl)
  k : KAt B w x.a x.ks
  t : x.text.size ≤ maxLen
  kl : x.ks.length ≤ maxLen
  kc : x.ks.length ≤ x.c
  kn : x.a = none → x.c = 0
/-- Nodes in a row. -/
def NAt (B : Nat) (w : World) (a : Option Addr) (L : List Nd) : Prop := ∀ (i : Nat) (x : Nd), L[i]? = some x → ∃ b o, a = some ⟨b, o, none⟩ ∧ b < B ∧ NCell B w b (o + i * 4) x

theorem KAt.fr {B : Nat} {S : List Nat} {w w' : World} {a : Option Addr} {ks : List Int} (h : KAt B w a ks) (f : Fr S w w') (hS : ∀ k, k ∈ S → B ≤ k) : KAt B w' a ks := fun j k hk => by
  obtain ⟨b, o, e, hb, hc⟩ := h j k hk
  exact ⟨b, o, e, hb, f.cell1 hc (fun hm => by have := hS _ hm; simp at this; omega)⟩
theorem NCell.fr {B : Nat} {S : List Nat} {w w' : World} {b o : Nat} {x : Nd} (h : NCell B w b o x) (f : Fr S w w') (hb : b < B) (hS : ∀ k, k ∈ S → B ≤ k) : NCell B w' b o x := by
  have hn : b ∉ S := fun hm => by have := hS _ hm; omega
  exact ⟨f.cell1 h.c0 hn, f.cell1 h.c1 hn, f.cell1 h.c2 hn, f.cell1 h.c3 hn, h.k.fr f hS, h.t, h.kl, h.kc, h.kn⟩
theorem NAt.fr {B : Nat} {S : List Nat} {w w' : World} {a : Option Addr} {L : List Nd} (h : NAt B w a L) (f : Fr S w w') (hS : ∀ k, k ∈ S → B ≤ k) : NAt B w' a L := fun i x hx => by
  obtain ⟨b, o, e, hb, hc⟩ := h i x hx
  exact ⟨b, o, e, hb, hc.fr f hb hS⟩

/-- Which texts a node may have. -/
def decL (s : ByteArray) : Bool := (num s).isSome && (decide (s.data.toList = [48]) || decide (49 ≤ (s.data.toList.headD 0).toNat ∧ (s.data.toList.headD 0).toNat ≤ 57))
def unaries : List (List UInt8) := [[45], [33], [126]]
def binaries : List (List UInt8) := [[43], [45], [42], [47], [37], [60, 60], [62, 62], [38], [94], [124], [61, 61], [33, 61], [60], [60, 61]]
def unL (s : ByteArray) : Bool := unaries.contains s.data.toList
def binL (s : ByteArray) : Bool := binaries.contains s.data.toList
def noneL (s : ByteArray) : Bool := s.data.toList.isEmpty
def textL (t : Nat) (s : ByteArray) : Bool :=
  if t = 1 then name s else if t = 2 then decL s else if t = 3 then unL s else if t = 4 then binL s else noneL s

/-- The kind of a node by its number. -/
def kd (L : List Nd) (k : Int) : Int := match L[k.toNat]? with | some x => x.kind | none => 0

/-- Kids are marked; none, if one isn't ahead or is taken already. -/
def takeL (n : Nat) : List Int → List Bool → Option (List Bool)
  | [], T => some T
  | k :: r, T => if k < 0 ∨ (n : Int) ≤ k ∨ T.getD k.toNat false = true then none else takeL n r (T.set k.toNat true)

/-- One node: its error, or what is taken behind it. -/
def nodeE (L : List Nd) (n : Nat) (x : Nd) (T : List Bool) : Except Nat (List Bool) :=
  match wantL x.kind with
  | none => .error 50
  | some (t, ls) =>
    if x.pl < 0 then .error 50
    else match takeL n x.ks T with
      | none => .error 50
      | some T' => if textL t x.text = false then .error 52 else if fitL ls (x.ks.map (kd L)) = false then .error 53 else .ok T'

/-- The first n nodes: the first that is wrong and its error, or what is taken. -/
def nodesL (L : List Nd) : Nat → Except (Nat × Nat) (List Bool)
  | 0 => .ok (List.replicate L.length false)
  | n + 1 => match nodesL L n with
    | .error e => .error e
    | .ok T => match L[n]? with
      | none => .ok T
      | some x => match nodeE L n x T with
        | .error e => .error (n, e)
        | .ok T' => .ok T'

/-- How deep: of each node, behind its kids'. -/
def kidD (D : List Nat) (n : Nat) : List Int → Nat → Nat
  | [], d => d
  | k :: r, d => kidD D n r (if 0 ≤ k ∧ k < n then max d (1 + D.getD k.toNat 0) else d)
def depths (L : List Nd) : Nat → List Nat
  | 0 => []
  | n + 1 => depths L n ++ [match L[n]? with | some x => kidD (depths L n) n x.ks 1 | none => 0]
def deepL (L : List Nd) : Nat := (depths L L.length).getD (L.length - 1) 0

def checkL (L : List Nd) : Nat × Nat :=
  if 50000 < L.length then (0, 2)
  else match nodesL L L.length with
    | .error e => e
    | .ok T =>
      if L.length = 0 then (0, 50)
      else if kd L ((L.length - 1 : Nat) : Int) ≠ 1 ∨ (T.take (L.length - 1)).contains false = true then (L.length - 1, 50)
      else if 200 < deepL L then (0, 51) else (0, 0)

theorem take_length {n : Nat} : ∀ (ks : List Int) (T T' : List Bool), takeL n ks T = some T' → T'.length = T.length
  | [], T, T', h => by simp [takeL] at h; rw [h]
  | k :: r, T, T', h => by
    simp only [takeL] at h
    split at h
    · cases h
    · rw [take_length r _ _ h]; simp
theorem node_length {L : List Nd} {n : Nat} {x : Nd} {T T' : List Bool} (h : nodeE L n x T = .ok T') : T'.length = T.length := by
  unfold nodeE at h
  repeat (split at h <;> try (cases h))
  exact take_length _ _ _ (by assumption)
theorem nodes_length {L : List Nd} : ∀ (n : Nat) (T : List Bool), nodesL L n = .ok T → T.length = L.length
  | 0, T, h => by simp [nodesL] at h; rw [← h]; simp
  | n + 1, T, h => by
    unfold nodesL at h
    split at h
    · cases h
    · rename_i T0 h0
      have ih := nodes_length n T0 h0
      split at h
      · cases h; exact ih
      · split at h
        · cases h
        · rename_i T1 h1
          cases h
          rw [node_length h1, ih]
theorem nodes_stop {L : List Nd} {n : Nat} {e : Nat × Nat} (h : nodesL L n = .error e) : ∀ (m : Nat), n ≤ m → nodesL L m = .error e := by
  intro m hm
  induction m with
  | zero => have : n = 0 := by omega
            subst this; exact h
  | succ m ih =>
    by_cases hn : n = m + 1
    · subst hn; exact h
    · unfold nodesL; rw [ih (by omega)]
theorem nodes_err {L : List Nd} {n : Nat} {x : Nd} {T : List Bool} {e : Nat} (h : nodesL L n = .ok T) (hx : L[n]? = some x) (he : nodeE L n x T = .error e) : nodesL L L.length = .error (n, e) := by
  refine nodes_stop (n := n + 1) ?_ _ (by have := (List.getElem?_eq_some_iff.1 hx).1; omega)
  unfold nodesL
  rw [h, hx]
  simp only [he]
theorem nodes_ok {L : List Nd} {n : Nat} {x : Nd} {T T' : List Bool} (h : nodesL L n = .ok T) (hx : L[n]? = some x) (he : nodeE L n x T = .ok T') : nodesL L (n + 1) = .ok T' := by
  unfold nodesL
  rw [h, hx]
  simp only [he]
theorem depths_length (L : List Nd) : ∀ n, (depths L n).length = n
  | 0 => rfl
  | n + 1 => by simp [depths, depths_length L n]
theorem kidD_le {D : List Nat} {n m : Nat} (hD : ∀ d ∈ D, d ≤ m) : ∀ (ks : List Int) (d : Nat), d ≤ m + 1 → kidD D n ks d ≤ m + 1
  | [], d, h => h
  | k :: r, d, h => by
    refine kidD_le hD r _ ?_
    split
    · have : D.getD k.toNat 0 ≤ m := by
        rw [List.getD_eq_getElem?_getD]
        cases hq : D[k.toNat]? with
        | none => simp
        | some q => simpa using hD q (List.mem_of_getElem? hq)
      omega
    · exact h
theorem depths_le (L : List Nd) : ∀ n, ∀ d ∈ depths L n, d ≤ n
  | 0, d, h => by simp [depths] at h
  | n + 1, d, h => by
    simp only [depths, List.mem_append, List.mem_singleton] at h
    rcases h with h | h
    · have := depths_le L n d h; omega
    · rw [h]
      split
      · exact kidD_le (depths_le L n) _ _ (by omega)
      · omega
theorem getD_le {l : List Nat} {m : Nat} (h : ∀ d ∈ l, d ≤ m) (i : Nat) : l.getD i 0 ≤ m := by
  rw [List.getD_eq_getElem?_getD]
  cases hq : l[i]? with
  | none => simp
  | some q => simpa using h q (List.mem_of_getElem? hq)
theorem deepL_le (L : List Nd) : deepL L ≤ L.length := getD_le (depths_le L L.length) _
end Go.Proofs.YtnmfcaahdeddnaaGreatDoor.T5
