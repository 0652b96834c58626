/-
  Check, with what it catches; conditions: the code lies as told.
-/
import Derived.Test.YtkjkpkmmojchiaaGreatDoorIrT
import Derived.Recover
namespace Go.Proofs.YtkjkpkmmojchiaaGreatDoor
open Go.RowKit Go.Maps
set_option linter.unusedVariables false
set_option linter.unusedSimpArgs false

theorem catch_idle (p q r : Addr) (w : World) :
    CallsD Tryz.prog 132 #[.pointer (some p), .pointer (some q), .pointer (some r)] .returning w fun e u' w' => e = .returned (.tuple #[]) ∧ u' = .returning ∧ w' = w := by
  refine callsD_of_wpS Tryz.func132 rfl fun c₀ cs hu => ?_
  apply wpS_seq
  apply wpS_region
  simp [wpOpsS, go_sem, recoverD, hu, Tryz.ntmps132, Exit.thenS]
  apply wpS_of_wp
  go_wp2
  cases c₀
  simp_all [bodyPostS, results, Tryz.results132]

theorem wp_tmps {c : Code} {Q : Exit → Act → World → Prop} {X Y : Array Value} {w : World} (h : X = Y) (k : c.wp Tryz.prog Q { tmps := Y, defers := [] } w) : c.wp Tryz.prog Q { tmps := X, defers := [] } w := h ▸ k
theorem assert73 (v : Value) (w : World) : (Instr.typeAssert (.iface 171 v) 20 171 true).run Tryz.prog w = .ok (.tuple #[v, .bool true]) w := by kernel_rfl

set_option maxRecDepth 100000 in
set_option maxHeartbeats 1000000 in
theorem catch_thrown (b0 b1 b2 : Nat) (n i : Int) (w : World) (vp vq vr : Value) (t0 t1 t2 : TypeId) (h01 : b0 ≠ b1) (h02 : b0 ≠ b2) (h12 : b1 ≠ b2) (e0 : w.heap[b0]? = some (.cells #[vp] t0 (0, 0))) (e1 : w.heap[b1]? = some (.cells #[vq] t1 (0, 0))) (e2 : w.heap[b2]? = some (.cells #[vr] t2 (0, 0))) :
    CallsD Tryz.prog 132 #[.pointer (some ⟨b0, 0, none⟩), .pointer (some ⟨b1, 0, none⟩), .pointer (some ⟨b2, 0, none⟩)] (.panicking [{ v := .iface 171 (.agg #[.int .i64 n, .int .i64 i]), recovered := false }]) w fun e u' w' => e = .returned (.tuple #[]) ∧ u' = .panicking [{ v := .iface 171 (.agg #[.int .i64 n, .int .i64 i]), recovered := true }] ∧ Fr [b0, b1, b2] w w' ∧ w'.heap[b0]? = some (.cells #[.int .i64 n] t0 (0, 0)) ∧ w'.heap[b1]? = some (.cells #[.int .i64 i] t1 (0, 0)) ∧ w'.heap[b2]? = some (.cells #[.int .i64 100] t2 (0, 0)) := by
  refine callsD_of_wpS Tryz.func132 rfl fun c₀ cs hu => ?_
  apply wpS_seq
  apply wpS_region
  simp [wpOpsS, go_sem, recoverD, hu, Tryz.ntmps132, Exit.thenS]
  apply wpS_of_wp
  refine wp_tmps (Y := #[.pointer (some ⟨b0, 0, none⟩), .pointer (some ⟨b1, 0, none⟩), .pointer (some ⟨b2, 0, none⟩), undef, undef, undef, .iface 171 (.agg #[.int .i64 n, .int .i64 i]), undef, undef, undef, undef, undef, undef, undef, undef, undef]) rfl ?_
  have ha := assert73 (.agg #[.int .i64 n, .int .i64 i]) w
  go_wp2
  have gA : Fr [b0, b1, b2] w (w.alloc (.cells #[.int .i64 n, .int .i64 i] 171)) := (Fr.refl _ _).alloc _
  have bA : (w.alloc (.cells #[.int .i64 n, .int .i64 i] 171)).heap[w.heap.size]? = some (.cells #[.int .i64 n, .int .i64 i] 171 (0, 0)) := heap_alloc_new w _
  have kp : ∀ {j : Nat} {o : Obj}, w.heap[j]? = some o → (w.alloc (.cells #[.int .i64 n, .int .i64 i] 171)).heap[j]? = some o := fun h => (((Fr.refl [] w).alloc _).block _ (Array.getElem?_eq_some_iff.1 h).1 (by simp)).trans h
  have lt : ∀ {j : Nat} {o : Obj}, w.heap[j]? = some o → j ≠ w.heap.size := fun h => by have := (Array.getElem?_eq_some_iff.1 h).1; omega
  have n0 := lt e0
  have n1 := lt e1
  have n2 := lt e2
  have E0 := kp e0
  have E1 := kp e1
  have E2 := kp e2
  generalize hN : w.heap.size = N at *
  generalize w.alloc (.cells #[.int .i64 n, .int .i64 i] 171) = Y at *
  have ca : Y.cell? ⟨N, 0, none⟩ = some (.int .i64 n) := at_cells bA 0 rfl
  have cb : Y.cell? ⟨N, 1, none⟩ = some (.int .i64 i) := at_cells bA 1 rfl
  have c0 := at_cells E0 0 rfl
  have c1 := at_cells E1 0 rfl
  have c2 := at_cells E2 0 rfl
  have z0 : Y.frozen? ⟨b0, 0, none⟩ = false := by simp [World.frozen?, E0]
  have z1 : Y.frozen? ⟨b1, 0, none⟩ = false := by simp [World.frozen?, E1]
  have z2 : Y.frozen? ⟨b2, 0, none⟩ = false := by simp [World.frozen?, E2]
  go_region
  all_goals
    refine ⟨rfl, _, rfl, .tuple #[], by simp [results, Tryz.results132], rfl, rfl, ?_, ?_, ?_, ?_⟩
    · exact (((gA.setCell (.inl (by simp)) _).setCell (.inl (by simp)) _).setCell (.inl (by simp)) _).drew
    · exact set_other h02 (set_other h01 (set_same E0))
    · exact set_other h12 (set_same (set_other (Ne.symm h01) E1))
    · exact set_same (set_other (Ne.symm h12) (set_other (Ne.symm h02) E2))

/-- The world in which the judge begins. -/
def begin6 (fa : Option Addr) (len cap : Nat) (mn mg : Int) (w : World) : World :=
  (((((w.alloc (.cells #[.slice fa len cap, .int .i64 mn, .int .i64 mg] 24)).alloc (.cells #[.int .i64 0] 3)).alloc (.cells #[.int .i64 0] 3)).alloc (.cells #[.int .i64 0] 37)).alloc (.map #[] 0)).alloc (.cells #[.slice fa len cap, .int .i64 mn, .int .i64 mg, .map (some (w.heap.size + 1 + 1 + 1 + 1)), .int .i64 0, .int .i64 0] 174)
theorem keep_alloc {w : World} {k : Nat} {o u : Obj} (h : w.heap[k]? = some o) : (w.alloc u).heap[k]? = some o := (((Fr.refl [] w).alloc u).block _ (Array.getElem?_eq_some_iff.1 h).1 (by simp)).trans h
theorem new_alloc {w : World} {k : Nat} (u : Obj) (h : k = w.heap.size) : (w.alloc u).heap[k]? = some u := by subst h; exact heap_alloc_new w u
section
variable (fa : Option Addr) (len cap : Nat) (mn mg : Int) (w : World)
theorem begin6_fr : Fr [] w (begin6 fa len cap mn mg w) := ((((((Fr.refl _ _).alloc _).alloc _).alloc _).alloc _).alloc _).alloc _
theorem begin6_b : (begin6 fa len cap mn mg w).heap[w.heap.size + 1]? = some (.cells #[.int .i64 0] 3 (0, 0)) ∧ (begin6 fa len cap mn mg w).heap[w.heap.size + 1 + 1]? = some (.cells #[.int .i64 0] 3 (0, 0)) ∧ (begin6 fa len cap mn mg w).heap[w.heap.size + 1 + 1 + 1]? = some (.cells #[.int .i64 0] 37 (0, 0)) ∧ JB (begin6 fa len cap mn mg w) (w.heap.size + 1 + 1 + 1 + 1 + 1) fa len cap mn mg (w.heap.size + 1 + 1 + 1 + 1) 0 0 := by
  unfold begin6 JB
  refine ⟨?_, ?_, ?_, ?_⟩
  · exact keep_alloc (keep_alloc (keep_alloc (keep_alloc (new_alloc _ (by simp [World.size_alloc])))))
  · exact keep_alloc (keep_alloc (keep_alloc (new_alloc _ (by simp [World.size_alloc]))))
  · exact keep_alloc (keep_alloc (new_alloc _ (by simp [World.size_alloc])))
  · exact new_alloc _ (by simp [World.size_alloc])
theorem begin6_set : SetAt (begin6 fa len cap mn mg w) (w.heap.size + 1 + 1 + 1 + 1) 0 (fun _ => false) := by
  refine ⟨.map [], ?_, fun k hk => rfl⟩
  have h0 := (World.ownsMap_made (H := Unit) ((((w.alloc (.cells #[.slice fa len cap, .int .i64 mn, .int .i64 mg] 24)).alloc (.cells #[.int .i64 0] 3)).alloc (.cells #[.int .i64 0] 3)).alloc (.cells #[.int .i64 0] 37)) Tryz.prog 2 unitElem).alloc (.cells #[.slice fa len cap, .int .i64 mn, .int .i64 mg, .map (some (w.heap.size + 1 + 1 + 1 + 1)), .int .i64 0, .int .i64 0] 174)
  simp only [World.size_alloc] at h0
  exact h0
end
def checkO (F : List Fu) (mn mg : Int) : Nat × Nat × Nat := match wholeL F mn mg with | .ok _ => (0, 0, 0) | .error (a, b) => (a, b, 100)
def cEnd (o : Nat × Nat × Nat) : Ending := .returned (.tuple #[.int .i64 (o.1 : Nat), .int .i64 (o.2.1 : Nat), .int .i64 (o.2.2 : Nat)])
/-- What lies as code. -/
structure CdOk (B : Nat) (w : World) (F : List Fu) (fa : Option Addr) (len : Nat) (mg : Int) : Prop where
  at_ : FAt B w fa F
  ln : F.length = len
  ok : FsOk F
  lm : len ≤ 2000000000000
  mg : mg ≤ 9223372036854775807
  lo : 1 ≤ B
theorem CdOk.fr {B : Nat} {w w' : World} {F : List Fu} {fa : Option Addr} {len : Nat} {mg : Int} {S : List Nat} (h : CdOk B w F fa len mg) (f : Fr S w w') (hS : ∀ k, k ∈ S → B ≤ k) : CdOk B w' F fa len mg := ⟨h.at_.fr f hS, h.ln, h.ok, h.lm, h.mg, h.lo⟩

set_option maxRecDepth 100000 in
set_option maxHeartbeats 2000000 in
theorem judged_any {B : Nat} {w : World} {F : List Fu} {fa : Option Addr} {len : Nat} {mg : Int} (cap : Nat) (mn : Int) (h : CdOk B w F fa len mg) (T : Tabs w) (hB : B ≤ w.heap.size) :
    Calls Tryz.prog 86 #[.agg #[.slice fa len cap, .int .i64 mn, .int .i64 mg]] w fun e w' => e = cEnd (checkO F mn mg) ∧ Fr [] w w' := by
  have hmf : ∀ (fn : Fn) (first cap : Array Value) (w : World), (Instr.makeFunc fn first cap).run Tryz.prog w = .ok (.func fn first cap) w := fun _ _ _ _ => rfl
  have hmk : ∀ w, (Instr.makeMap 172 none).run Tryz.prog w = .ok (.map (some w.heap.size)) (w.alloc (.map #[] 0)) := fun w => rfl
  obtain ⟨e1, e2, e3, e4⟩ := begin6_b fa len cap mn mg w
  have f6 := begin6_fr fa len cap mn mg w
  have J : JS ⟨B, F, fa, len, cap, mn, mg, w.heap.size + 1 + 1 + 1 + 1 + 1, w.heap.size + 1 + 1 + 1 + 1⟩ 0 0 0 (fun _ => false) (begin6 fa len cap mn mg w) :=
    ⟨e4, begin6_set fa len cap mn mg w, h.at_.fr f6 (by simp), h.ln, by simp only; omega, by simp only; omega, Nat.le_trans hB f6.size, T.fr f6 (by simp), h.lo⟩
  have C := fun R hR => whole_cps J h.ok h.lm h.mg R hR
  simp only [JP.S] at C
  have HO : Hid (checkO F mn mg = match wholeL F mn mg with | .ok _ => (0, 0, 0) | .error (a, b) => (a, b, 100)) := rfl
  clear J e4
  go_enter_defers Tryz.func86, Tryz.ntmps86
  go_wp2_with fail
  refine C _ ?_
  cases hw : wholeL F mn mg with
  | error ab =>
    obtain ⟨a, b⟩ := ab
    intro W fW
    have E1 := (fW.block _ (Array.getElem?_eq_some_iff.1 e1).1 (by simp)).trans e1
    have E2 := (fW.block _ (Array.getElem?_eq_some_iff.1 e2).1 (by simp)).trans e2
    have E3 := (fW.block _ (Array.getElem?_eq_some_iff.1 e3).1 (by simp)).trans e3
    refine leaves_cons (f := 132) (args := #[.pointer (some ⟨w.heap.size + 1, 0, none⟩), .pointer (some ⟨w.heap.size + 1 + 1, 0, none⟩), .pointer (some ⟨w.heap.size + 1 + 1 + 1, 0, none⟩)]) (by simp) (by simp [go_sem]) ?_
    refine (catch_thrown _ _ _ (a : Nat) (b : Nat) W _ _ _ _ _ _ (by omega) (by omega) (by omega) E1 E2 E3).mono ?_
    rintro e u' w'' ⟨rfl, rfl, fz, g0, g1, g2⟩
    have c0 := at_cells g0 0 rfl
    have c1 := at_cells g1 0 rfl
    have c2 := at_cells g2 0 rfl
    simp [Leaves, settle, results, Tryz.results86, go_sem, c0, c1, c2]
    refine ⟨by rw [HO.out, hw]; rfl, ?_⟩
    have g7 : Fr ([w.heap.size + 1, w.heap.size + 1 + 1, w.heap.size + 1 + 1 + 1] ++ [w.heap.size + 1 + 1 + 1 + 1 + 1, w.heap.size + 1 + 1 + 1 + 1]) w w'' := ((f6.sub (by simp)).trans (fW.sub (fun k hk => .inl (List.mem_append_right _ hk)))).trans (fz.sub (fun k hk => .inl (List.mem_append_left _ hk)))
    exact g7.sub (fun k hk => .inr (by simp at hk; omega))
  | ok u =>
    intro W fW
    have E1 := (fW.block _ (Array.getElem?_eq_some_iff.1 e1).1 (by simp)).trans e1
    have E2 := (fW.block _ (Array.getElem?_eq_some_iff.1 e2).1 (by simp)).trans e2
    have E3 := (fW.block _ (Array.getElem?_eq_some_iff.1 e3).1 (by simp)).trans e3
    have c1 := at_cells E1 0 rfl
    have c2 := at_cells E2 0 rfl
    have c3 := at_cells E3 0 rfl
    have z1 : W.frozen? ⟨w.heap.size + 1, 0, none⟩ = false := by simp [World.frozen?, E1]
    have z2 : W.frozen? ⟨w.heap.size + 1 + 1, 0, none⟩ = false := by simp [World.frozen?, E2]
    have z3 : W.frozen? ⟨w.heap.size + 1 + 1 + 1, 0, none⟩ = false := by simp [World.frozen?, E3]
    clear C hmf hmk T h
    go_wp2
    have f9 : Fr [w.heap.size + 1, w.heap.size + 1 + 1, w.heap.size + 1 + 1 + 1] W (((W.setCell ⟨w.heap.size + 1, 0, none⟩ (.int .i64 0)).setCell ⟨w.heap.size + 1 + 1, 0, none⟩ (.int .i64 0)).setCell ⟨w.heap.size + 1 + 1 + 1, 0, none⟩ (.int .i64 0)) := (((Fr.refl _ _).setCell (.inl (by simp)) _).setCell (.inl (by simp)) _).setCell (.inl (by simp)) _
    have g0 := set_other (v := .int .i64 0) (show w.heap.size + 1 ≠ w.heap.size + 1 + 1 + 1 by omega) (set_other (v := .int .i64 0) (show w.heap.size + 1 ≠ w.heap.size + 1 + 1 by omega) (set_same (v := .int .i64 0) E1))
    have g1 := set_other (v := .int .i64 0) (show w.heap.size + 1 + 1 ≠ w.heap.size + 1 + 1 + 1 by omega) (set_same (v := .int .i64 0) (set_other (v := .int .i64 0) (show w.heap.size + 1 + 1 ≠ w.heap.size + 1 by omega) E2))
    have g2 := set_same (v := .int .i64 0) (set_other (v := .int .i64 0) (show w.heap.size + 1 + 1 + 1 ≠ w.heap.size + 1 + 1 by omega) (set_other (v := .int .i64 0) (show w.heap.size + 1 + 1 + 1 ≠ w.heap.size + 1 by omega) E3))
    generalize ((W.setCell ⟨w.heap.size + 1, 0, none⟩ (.int .i64 0)).setCell ⟨w.heap.size + 1 + 1, 0, none⟩ (.int .i64 0)).setCell ⟨w.heap.size + 1 + 1 + 1, 0, none⟩ (.int .i64 0) = W9 at *
    refine leaves_cons (f := 132) (args := #[.pointer (some ⟨w.heap.size + 1, 0, none⟩), .pointer (some ⟨w.heap.size + 1 + 1, 0, none⟩), .pointer (some ⟨w.heap.size + 1 + 1 + 1, 0, none⟩)]) (by simp) (by simp [go_sem]) ?_
    refine (catch_idle _ _ _ _).mono ?_
    rintro e u' w'' ⟨rfl, rfl, rfl⟩
    have d0 := at_cells g0 0 rfl
    have d1 := at_cells g1 0 rfl
    have d2 := at_cells g2 0 rfl
    simp [Leaves, settle, results, Tryz.results86, go_sem, d0, d1, d2]
    refine ⟨by rw [HO.out, hw]; rfl, ?_⟩
    have g7 : Fr ([w.heap.size + 1, w.heap.size + 1 + 1, w.heap.size + 1 + 1 + 1] ++ [w.heap.size + 1 + 1 + 1 + 1 + 1, w.heap.size + 1 + 1 + 1 + 1]) w w'' := ((f6.sub (by simp)).trans (fW.sub (fun k hk => .inl (List.mem_append_right _ hk)))).trans (f9.sub (fun k hk => .inl (List.mem_append_left _ hk)))
    exact g7.sub (fun k hk => .inr (by simp at hk; omega))

set_option maxRecDepth 100000 in
theorem check_any {B : Nat} {w : World} {F : List Fu} {fa : Option Addr} {len : Nat} {mg : Int} (cap : Nat) (mn : Int) (h : CdOk B w F fa len mg) (T : Tabs w) (hB : B ≤ w.heap.size) :
    Calls Tryz.prog 51 #[.agg #[.slice fa len cap, .int .i64 mn, .int .i64 mg]] w fun e w' => e = cEnd (checkO F mn mg) ∧ Fr [] w w' := by
  have F0 : Fr [] w (w.alloc (.cells #[.slice fa len cap, .int .i64 mn, .int .i64 mg] 24)) := (Fr.refl _ _).alloc _
  have C := judged_any cap mn (h.fr F0 (by simp)) (T.fr F0 (by simp)) (Nat.le_trans hB F0.size)
  generalize checkO F mn mg = o at *
  unfold cEnd at *
  clear h T
  go_enter Tryz.func51, Tryz.ntmps51
  go_wp2_with (go_at_call 86; refine C.mono ?_; rintro e w' ⟨rfl, f1⟩)
  exact bodyPost_ret (results_tmp3 rfl _ _ _) rfl ⟨rfl, F0.trans f1⟩
end Go.Proofs.YtkjkpkmmojchiaaGreatDoor
