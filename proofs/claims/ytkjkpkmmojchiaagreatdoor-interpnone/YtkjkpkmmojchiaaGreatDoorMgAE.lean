/-
  Texts of the proof, in their order: MaU, MaV, MaX, MaY; conditions: as each theorem says.
-/
import Derived.Test.YtkjkpkmmojchiaaGreatDoorMgAD
namespace Go.Proofs.YtkjkpkmmojchiaaGreatDoor
open Go.RowKit
set_option linter.unusedVariables false
set_option linter.unusedSimpArgs false

section
variable {w : World} {B : Nat} {P : MP} {c : Cf} {s : St} {idle : Int}
set_option maxRecDepth 100000 in
set_option maxHeartbeats 2000000 in
theorem next_end (h : MAt w B P c s idle) (hd : s.done = true) : Calls Tryz.prog 17 #[.pointer (some ⟨P.mb, 0, none⟩)] w (DoP w B P c s idle (.returned (.int .i64 1))) := by
  have f2 : Fr [] w ((w.alloc (.cells #[.pointer (some ⟨P.mb, 0, none⟩)] 46)).alloc (.cells #[.int .i64 0] 3)) := ((Fr.refl _ _).alloc _).alloc _
  have H2 := h.fr0 f2
  have C := goesOn_mk H2
  rw [hd] at C
  have HM : Hid (MAt w B P c s idle) := h
  have b2 := blk2 w (.cells #[.pointer (some ⟨P.mb, 0, none⟩)] 46) (.cells #[.int .i64 0] 3)
  have b1 : ((w.alloc (.cells #[.pointer (some ⟨P.mb, 0, none⟩)] 46)).alloc (.cells #[.int .i64 0] 3)).heap[w.heap.size]? = some (.cells #[.pointer (some ⟨P.mb, 0, none⟩)] 46 (0, 0)) := (((Fr.refl [] _).alloc _).block _ (by simp) (by simp)).trans (heap_alloc_new w _)
  simp only [Bool.not_true] at C
  have HF : Hid (Fr [] w ((w.alloc (.cells #[.pointer (some ⟨P.mb, 0, none⟩)] 46)).alloc (.cells #[.int .i64 0] 3))) := f2
  clear h f2 H2 hd
  go_enter_defers Tryz.func17, Tryz.ntmps17
  go_upto_region 1 with fail
  generalize (w.alloc (.cells #[.pointer (some ⟨P.mb, 0, none⟩)] 46)).alloc (.cells #[.int .i64 0] 3) = W at *
  have c1 : W.cell? ⟨w.heap.size, 0, none⟩ = some (.pointer (some ⟨P.mb, 0, none⟩)) := at_cells b1 0 rfl
  have c2 : W.cell? ⟨w.heap.size + 1, 0, none⟩ = some (.int .i64 0) := at_cells b2 0 rfl
  have z2 : W.frozen? ⟨w.heap.size + 1, 0, none⟩ = false := by simp [World.frozen?, b2]
  have g2 := set_same (v := .int .i64 1) b2
  have HG : Hid ((W.setCell ⟨w.heap.size + 1, 0, none⟩ (.int .i64 1)).heap[w.heap.size + 1]? = some (.cells #[.int .i64 1] 3 (0, 0))) := g2
  clear b1 b2 g2
  go_wp2_with (go_at_call 58; refine C.mono ?_; rintro e w' ⟨rfl, hw⟩; rw [hw])
  have c3 := at_cells HG.out 0 rfl
  simp [bodyPostD, Leaves, settle, results, Tryz.results17, go_sem, c3]
  refine ⟨rfl, P, HM.out.fr (S := [w.heap.size + 1]) ((HF.out.sub (by simp)).setCell (.inl (by simp)) _) (fun k hk hm => by simp at hm; have := HM.out.lt k hk; omega) (by simp; have := HM.out.lt P.mb (by simp [footM]); have := HM.out.base; omega), rfl, rfl, rfl, rfl, ((HF.out.sub (T := [w.heap.size + 1]) (by simp)).setCell (.inl (by simp)) _).sub (by simp), fun k hk => .inl hk⟩
/-- The two blocks that Next makes. -/
theorem next_blocks (h : MAt w B P c s idle) {W : World} (hf : Fr [] w W) (hs : W.heap.size = w.heap.size + 1 + 1) {w' : World} {s' : St} {idle' : Int} {e0 e : Ending} (hd : DoP W B P c s' idle' e0 e w') : ∃ P', MAt w' B P' c s' idle' ∧ P'.mb = P.mb ∧ P'.F = P.F ∧ P'.fa = P.fa ∧ P'.fc = P.fc ∧ Fr (footM P) w w' ∧ (∀ k ∈ footM P', k ∈ footM P ∨ w.heap.size ≤ k) ∧ Fr (footM P) W w' ∧ w.heap.size ∉ footM P ∧ w.heap.size + 1 ∉ footM P ∧ w.heap.size + 1 ∉ footM P' ∧ B ≤ w.heap.size + 1 := by
  obtain ⟨_, P', m1, m2, m3, m4, m5, m6, m7⟩ := hd
  have hl := h.lt
  have n0 : w.heap.size ∉ footM P := fun hm => by have := hl _ hm; omega
  have n1 : w.heap.size + 1 ∉ footM P := fun hm => by have := hl _ hm; omega
  refine ⟨P', m1, m2, m3, m4, m5, (hf.sub (by simp)).trans m6, fun k hk => (m7 k hk).imp id (fun h => by omega), m6, n0, n1, fun hm => ?_, ?_⟩
  · rcases m7 _ hm with h1 | h1
    · exact n1 h1
    · omega
  · have := hl P.mb (by simp [footM])
    have := h.base
    omega
set_option maxRecDepth 100000 in
set_option maxHeartbeats 4000000 in
theorem next_ok (h : MAt w B P c s idle) (hd : s.done = false) {s' : St} {idle' : Int} (CD : ∀ w', Fr [] w w' → Calls Tryz.prog 60 #[.pointer (some ⟨P.mb, 0, none⟩)] w' (DoP w' B P c s' idle' okE)) : Calls Tryz.prog 17 #[.pointer (some ⟨P.mb, 0, none⟩)] w (DoP w B P c s' idle' (.returned (.int .i64 0))) := by
  have hmf : ∀ (fn : Fn) (first cap : Array Value) (w : World), (Instr.makeFunc fn first cap).run Tryz.prog w = .ok (.func fn first cap) w := fun _ _ _ _ => rfl
  have f2 : Fr [] w ((w.alloc (.cells #[.pointer (some ⟨P.mb, 0, none⟩)] 46)).alloc (.cells #[.int .i64 0] 3)) := ((Fr.refl _ _).alloc _).alloc _
  have H2 := h.fr0 f2
  have C := goesOn_mk H2
  rw [hd] at C
  have CDW := CD _ f2
  have HM : Hid (MAt w B P c s idle) := h
  have b2 := blk2 w (.cells #[.pointer (some ⟨P.mb, 0, none⟩)] 46) (.cells #[.int .i64 0] 3)
  have b1 : ((w.alloc (.cells #[.pointer (some ⟨P.mb, 0, none⟩)] 46)).alloc (.cells #[.int .i64 0] 3)).heap[w.heap.size]? = some (.cells #[.pointer (some ⟨P.mb, 0, none⟩)] 46 (0, 0)) := (((Fr.refl [] _).alloc _).block _ (by simp) (by simp)).trans (heap_alloc_new w _)
  have hsz : ((w.alloc (.cells #[.pointer (some ⟨P.mb, 0, none⟩)] 46)).alloc (.cells #[.int .i64 0] 3)).heap.size = w.heap.size + 1 + 1 := by simp [World.size_alloc]
  simp only [Bool.not_false] at C
  clear h H2 hd CD
  go_enter_defers Tryz.func17, Tryz.ntmps17
  go_upto_region 1 with fail
  generalize (w.alloc (.cells #[.pointer (some ⟨P.mb, 0, none⟩)] 46)).alloc (.cells #[.int .i64 0] 3) = W at *
  have c1 : W.cell? ⟨w.heap.size, 0, none⟩ = some (.pointer (some ⟨P.mb, 0, none⟩)) := at_cells b1 0 rfl
  have HF : Hid (Fr [] w W) := f2
  have HS : Hid (W.heap.size = w.heap.size + 1 + 1) := hsz
  have HB : Hid (W.heap[w.heap.size]? = some (.cells #[.pointer (some ⟨P.mb, 0, none⟩)] 46 (0, 0)) ∧ W.heap[w.heap.size + 1]? = some (.cells #[.int .i64 0] 3 (0, 0))) := ⟨b1, b2⟩
  clear b1 b2 f2 hsz
  go_upto_region 4 with (go_at_call 58; refine C.mono ?_; rintro e w' ⟨rfl, hw⟩; rw [hw])
  go_wp2_with fail
  with_reducible (refine CDW.mono ?_)
  rintro e X hD
  have he : e = okE := hD.1
  subst he
  obtain ⟨P', m1, m2, m3, m4, m5, m6, m7, m8, n0, n1, n2, n3⟩ := next_blocks HM.out HF.out HS.out hD
  have b2 := (m8.block _ (Array.getElem?_eq_some_iff.1 HB.out.2).1 n1).trans HB.out.2
  have c2 : X.cell? ⟨w.heap.size + 1, 0, none⟩ = some (.int .i64 0) := at_cells b2 0 rfl
  have z2 : X.frozen? ⟨w.heap.size + 1, 0, none⟩ = false := by simp [World.frozen?, b2]
  have HR : Hid (DoP w B P c s' idle' (.returned (.int .i64 0)) (.returned (.int .i64 0)) (X.setCell ⟨w.heap.size + 1, 0, none⟩ (.int .i64 0)) ∧ (X.setCell ⟨w.heap.size + 1, 0, none⟩ (.int .i64 0)).heap[w.heap.size + 1]? = some (.cells #[.int .i64 0] 3 (0, 0))) := by
    have fs : Fr [w.heap.size + 1] X (X.setCell ⟨w.heap.size + 1, 0, none⟩ (.int .i64 0)) := (Fr.refl _ _).setCell (.inl (by simp)) _
    exact ⟨⟨rfl, P', m1.fr fs (fun k hk hm => by simp at hm; subst hm; exact n2 hk) (by simp; exact n3), m2, m3, m4, m5, m6.next fs (by simp), m7⟩, set_same b2⟩
  clear CDW C hmf m1 m2 m3 m4 m5 m6 m7 m8 n0 n1 n2 n3 hD b2 HB HF HS HM c1
  go_wp2
  generalize X.setCell ⟨w.heap.size + 1, 0, none⟩ (.int .i64 0) = X1 at *
  refine leaves_cons (f := 59) (args := #[.pointer (some ⟨w.heap.size, 0, none⟩), .pointer (some ⟨w.heap.size + 1, 0, none⟩)]) (by simp) (by simp [go_sem]) ?_
  refine (catchE_idle _ _ _).mono ?_
  rintro e u' w'' ⟨rfl, rfl, rfl⟩
  have d0 := at_cells HR.out.2 0 rfl
  simp [Leaves, settle, results, Tryz.results17, go_sem, d0]
  exact HR.out.1
set_option maxRecDepth 100000 in
set_option maxHeartbeats 4000000 in
theorem next_thr (h : MAt w B P c s idle) (hd : s.done = false) {s' : St} {idle' : Int} {en vk vn tr : Int} (CD : ∀ w', Fr [] w w' → Calls Tryz.prog 60 #[.pointer (some ⟨P.mb, 0, none⟩)] w' (DoP w' B P c s' idle' (thrE en vk vn tr))) : Calls Tryz.prog 17 #[.pointer (some ⟨P.mb, 0, none⟩)] w (DoP w B P c (s'.ends en vk vn tr) idle' (.returned (.int .i64 1))) := by
  have hmf : ∀ (fn : Fn) (first cap : Array Value) (w : World), (Instr.makeFunc fn first cap).run Tryz.prog w = .ok (.func fn first cap) w := fun _ _ _ _ => rfl
  have f2 : Fr [] w ((w.alloc (.cells #[.pointer (some ⟨P.mb, 0, none⟩)] 46)).alloc (.cells #[.int .i64 0] 3)) := ((Fr.refl _ _).alloc _).alloc _
  have H2 := h.fr0 f2
  have C := goesOn_mk H2
  rw [hd] at C
  have CDW := CD _ f2
  have HM : Hid (MAt w B P c s idle) := h
  have b2 := blk2 w (.cells #[.pointer (some ⟨P.mb, 0, none⟩)] 46) (.cells #[.int .i64 0] 3)
  have b1 : ((w.alloc (.cells #[.pointer (some ⟨P.mb, 0, none⟩)] 46)).alloc (.cells #[.int .i64 0] 3)).heap[w.heap.size]? = some (.cells #[.pointer (some ⟨P.mb, 0, none⟩)] 46 (0, 0)) := (((Fr.refl [] _).alloc _).block _ (by simp) (by simp)).trans (heap_alloc_new w _)
  have hsz : ((w.alloc (.cells #[.pointer (some ⟨P.mb, 0, none⟩)] 46)).alloc (.cells #[.int .i64 0] 3)).heap.size = w.heap.size + 1 + 1 := by simp [World.size_alloc]
  simp only [Bool.not_false] at C
  clear h H2 hd CD
  go_enter_defers Tryz.func17, Tryz.ntmps17
  go_upto_region 1 with fail
  generalize (w.alloc (.cells #[.pointer (some ⟨P.mb, 0, none⟩)] 46)).alloc (.cells #[.int .i64 0] 3) = W at *
  have c1 : W.cell? ⟨w.heap.size, 0, none⟩ = some (.pointer (some ⟨P.mb, 0, none⟩)) := at_cells b1 0 rfl
  have HF : Hid (Fr [] w W) := f2
  have HS : Hid (W.heap.size = w.heap.size + 1 + 1) := hsz
  have HB : Hid (W.heap[w.heap.size]? = some (.cells #[.pointer (some ⟨P.mb, 0, none⟩)] 46 (0, 0)) ∧ W.heap[w.heap.size + 1]? = some (.cells #[.int .i64 0] 3 (0, 0))) := ⟨b1, b2⟩
  clear b1 b2 f2 hsz
  go_upto_region 4 with (go_at_call 58; refine C.mono ?_; rintro e w' ⟨rfl, hw⟩; rw [hw])
  go_wp2_with fail
  with_reducible (refine CDW.mono ?_)
  rintro e X hD
  have he : e = thrE en vk vn tr := hD.1
  subst he
  obtain ⟨P', m1, m2, m3, m4, m5, m6, m7, m8, n0, n1, n2, n3⟩ := next_blocks HM.out HF.out HS.out hD
  have b1 := (m8.block _ (Array.getElem?_eq_some_iff.1 HB.out.1).1 n0).trans HB.out.1
  have b2 := (m8.block _ (Array.getElem?_eq_some_iff.1 HB.out.2).1 n1).trans HB.out.2
  unfold thrE
  refine leaves_cons (f := 59) (args := #[.pointer (some ⟨w.heap.size, 0, none⟩), .pointer (some ⟨w.heap.size + 1, 0, none⟩)]) (by simp) (by simp [go_sem]) ?_
  refine (catchE_thrown m1 w.heap.size (w.heap.size + 1) _ (by rw [m2]; exact b1) b2 en vk vn tr n2 n3).mono ?_
  rintro e u' w'' ⟨rfl, rfl, k1, k2, k3⟩
  have d0 := at_cells k2 0 rfl
  simp [Leaves, settle, results, Tryz.results17, go_sem, d0]
  refine ⟨rfl, P', k1, m2, m3, m4, m5, m6.next k3 (fun k hk => ?_), m7⟩
  simp at hk
  rcases hk with rfl | rfl
  · rw [m2]
    exact .inl (by simp [footM])
  · exact .inr (by omega)
end
end Go.Proofs.YtkjkpkmmojchiaaGreatDoor

namespace Go.Proofs.YtkjkpkmmojchiaaGreatDoor
open Go.RowKit
set_option linter.unusedVariables false
set_option linter.unusedSimpArgs false

theorem frL_take : ∀ (fr : List Fm) (fs : List Value) (N : Nat), frL (fr.take N) (fs.take N) = (frL fr fs).take (N * 4)
  | [], fs, N => by simp [frL]
  | p :: fr, [], N => by simp [frL]
  | p :: fr, q :: fs, 0 => by simp [frL]
  | p :: fr, q :: fs, N + 1 => by
    have ih := frL_take fr fs N
    unfold frL at ih ⊢
    rw [show (N + 1) * 4 = N * 4 + 4 by omega]
    simp only [List.take_succ_cons, List.zip_cons_cons, List.flatMap_cons, frC, List.cons_append, List.nil_append, ih]
theorem own_take {w : World} {B n size g c : Nat} {e : TypeId} {xs : List Value} (h : w.ownsRow B e size (.slice (some ⟨g, 0, none⟩) n c) n xs) (m : Nat) (hm : m ≤ n) : w.ownsRow B e size (.slice (some ⟨g, 0, none⟩) m c) m (xs.take (m * size)) := by
  obtain ⟨h1, h2⟩ := h
  refine ⟨by rw [List.length_take, h1]; exact Nat.min_eq_left (Nat.mul_le_mul_right _ hm), ?_⟩
  rcases h2 with ⟨e1, _⟩ | ⟨g', cap, cur, e1, hb, hg, hn, hmx, hs, ht⟩
  · cases e1
  · cases e1
    refine .inr ⟨g, c, cur, rfl, hb, hg, Nat.le_trans hm hn, hmx, hs, ?_⟩
    rw [← ht, List.take_take, Nat.min_eq_left (Nat.mul_le_mul_right _ hm)]
section
variable {w : World} {B : Nat} {P : MP} {c : Cf} {s : St} {idle : Int}
def MP.pop (P : MP) (g N gc : Nat) : MP := { P with fv := .slice (some ⟨g, 0, none⟩) N gc, fs := P.fs.take N }
def St.pop (s : St) (N : Nat) : St := { s with fr := s.fr.take N }
theorem MAt.pop (h : MAt w B P c s idle) {N g gc : Nat} {f : Fm} {v : Value} (t : Top w B P s N g gc f v) :
    MAt (w.setCell ⟨P.mb, 38, none⟩ (.slice (some ⟨g, 0, none⟩) N gc)) B (P.pop g N gc) c (s.pop N) idle ∧ (∀ k ∈ footM (P.pop g N gc), k ∈ footM P) := by
  have f1 : Fr [P.mb] w (w.setCell ⟨P.mb, 38, none⟩ (.slice (some ⟨g, 0, none⟩) N gc)) := (Fr.refl _ _).setCell (.inl (by simp)) _
  have r := h.r.fr f1 (fun k hk hm => by simp at hm; subst hm; exact h.ne hk) (by simp; exact h.base)
  refine ⟨⟨set_cells 38 _ h.blk, h.base, r.rep, r.abs, ?_, ?_, ?_, ?_, ?_, r.out, r.code, r.cabs, r.img, r.inp⟩, fun k hk => ?_⟩
  · simp [MP.pop, St.pop, r.lens]
  · have hr := r.row
    rw [t.len, t.fvs] at hr
    have h2 := own_take hr N (by omega)
    rw [← frL_take] at h2
    have e : (s.pop N).fr.length = N := by simp [St.pop, t.len]
    rw [e]
    exact h2
  · intro i x u hi hu
    have hi' : s.fr[i]? = some x := by
      have := hi
      simp only [St.pop, List.getElem?_take] at this
      split at this
      · exact this
      · cases this
    have hu' : P.fs[i]? = some u := by
      have := hu
      simp only [MP.pop, List.getElem?_take] at this
      split at this
      · exact this
      · cases this
    exact r.rg i x u hi' hu'
  · exact r.sep.sublist (List.take_sublist _ _)
  · intro u hu
    exact r.sepT u (List.mem_of_mem_take hu)
  · rcases List.mem_cons.1 hk with rfl | hk
    · simp [footM, MP.pop]
    · refine List.mem_cons_of_mem _ (mem_rfoot.2 ?_)
      rcases mem_rfoot.1 hk with h1 | h1 | h1 | h1 | h1 | ⟨u, hu, h1⟩ | h1
      · exact .inl h1
      · exact .inr (.inl h1)
      · exact .inr (.inr (.inl h1))
      · exact .inr (.inr (.inr (.inl h1)))
      · exact .inr (.inr (.inr (.inr (.inl (by rw [t.fvs]; exact h1)))))
      · exact .inr (.inr (.inr (.inr (.inr (.inl ⟨u, List.mem_of_mem_take hu, h1⟩)))))
      · exact .inr (.inr (.inr (.inr (.inr (.inr h1)))))
set_option maxRecDepth 100000 in
set_option maxHeartbeats 4000000 in
theorem doRet_first (h : MAt w B P c s idle) {g gc : Nat} {f : Fm} {v : Value} (t : Top w B P s 0 g gc f v) {fu : Fu} {x : In} {fb fo ib io i j : Nat} (q : Ins w B P f fu x fb fo ib io i j) {a : Nat} (hx : x.a = a) {k m : Int} (ha : f.regs[a]? = some (k, m)) (hr : f.regs.length ≤ 1000) :
    Calls Tryz.prog 110 #[.pointer (some ⟨P.mb, 0, none⟩), .pointer (some ⟨g, 0, none⟩), .pointer (some ⟨ib, io + j * 6, none⟩)] w (DoP w B P c (s.pop 0) idle (thrE 0 k m 0)) := by
  obtain ⟨rb, rc, ev, k0, k1, hz, hrB, hne⟩ := h.r.reg t ha
  have haI : (a : Int) < f.regs.length := by have := (List.getElem?_eq_some_iff.1 ha).1; omega
  have hrI : (f.regs.length : Int) ≤ 1000 := by omega
  have c2 : w.cell? ⟨g, 2, none⟩ = some (.slice (some ⟨rb, 0, none⟩) f.regs.length rc) := by rw [← ev]; exact t.c2
  have c3 : w.cell? ⟨g, 3, none⟩ = some (.int .i64 f.into) := t.c3
  have i1 : w.cell? ⟨ib, io + j * 6 + 1, none⟩ = some (.int .i64 (a : Int)) := by rw [← hx]; exact q.ic.c1
  simp only at k0 k1
  have F0 : Fr [] w (w.alloc (.cells #[.int .i64 k, .int .i64 m] 33)) := (Fr.refl _ _).alloc _
  have b0 := heap_alloc_new w (.cells #[.int .i64 k, .int .i64 m] 33)
  have HM : Hid (MAt w B P c s idle) := h
  have HT : Hid (Top w B P s 0 g gc f v) := t
  have lg : g < w.heap.size := World.block_lt_of_cell? w _ c2
  have lr : rb < w.heap.size := World.block_lt_of_cell? w _ k0
  have li : ib < w.heap.size := World.block_lt_of_cell? w _ i1
  have C2 := F0.cell1 c2 (by simp)
  have C3 := F0.cell1 c3 (by simp)
  have I1 := F0.cell1 i1 (by simp)
  have K0 := F0.cell1 k0 (by simp)
  have K1 := F0.cell1 k1 (by simp)
  clear h t q hz
  unfold thrE
  go_enter Tryz.func110, Tryz.ntmps110
  go_wp2_with fail
  go_region
  all_goals
    have FW : Fr [] w (w.alloc (.cells #[.int .i64 k, .int .i64 m] 33)).drew := F0.drew
    have bW : (w.alloc (.cells #[.int .i64 k, .int .i64 m] 33)).drew.heap[w.heap.size]? = some (.cells #[.int .i64 k, .int .i64 m] 33 (0, 0)) := b0
    clear C2 C3 I1 K0 K1 c2 c3 i1 k0 k1 F0 b0
    generalize (w.alloc (.cells #[.int .i64 k, .int .i64 m] 33)).drew = W at *
    have MW := HM.out.fr0 FW
    have TW := HT.out.fr FW (by simp)
    have c38 : W.cell? ⟨P.mb, 38, none⟩ = some (.slice (some ⟨g, 0, none⟩) 1 gc) := by rw [← HT.out.fvs]; exact at_cells MW.blk 38 rfl
    have z38 : W.frozen? ⟨P.mb, 38, none⟩ = false := by simp [World.frozen?, MW.blk]
    have a0 : W.cell? ⟨w.heap.size, 0, none⟩ = some (.int .i64 k) := at_cells bW 0 rfl
    have a1 : W.cell? ⟨w.heap.size, 1, none⟩ = some (.int .i64 m) := at_cells bW 1 rfl
    have nmb : P.mb ≠ w.heap.size := by have := HM.out.lt P.mb (by simp [footM]); omega
    have HP : Hid (MAt (W.setCell ⟨P.mb, 38, none⟩ (.slice (some ⟨g, 0, none⟩) 0 gc)) B (P.pop g 0 gc) c (s.pop 0) idle ∧ (∀ k ∈ footM (P.pop g 0 gc), k ∈ footM P)) := MW.pop TW
    have HFW : Hid (Fr [] w W) := FW
    clear MW TW FW bW HT
    go_wp2_with fail
    go_region
    all_goals
      go_wp2
      refine bodyPost_panic rfl ⟨rfl, P.pop g 0 gc, ?_, rfl, rfl, rfl, rfl, ?_, fun k hk => .inl (HP.out.2 k hk)⟩
      · exact HP.out.1.fr0 ((Fr.refl _ _).drew)
      · exact ((HFW.out.sub (T := footM P) (by simp)).setCell (.inl (by simp [footM])) _).drew
end
end Go.Proofs.YtkjkpkmmojchiaaGreatDoor

namespace Go.Proofs.YtkjkpkmmojchiaaGreatDoor
open Go.RowKit
set_option linter.unusedVariables false
set_option linter.unusedSimpArgs false

theorem frL_push : ∀ {fr : List Fm} {fs : List Value} (f : Fm) (v : Value), fr.length = fs.length → frL (fr ++ [f]) (fs ++ [v]) = frL fr fs ++ frC (f, v)
  | [], [], f, v, h => by simp [frL]
  | [], q :: fs, f, v, h => by simp at h
  | p :: fr, [], f, v, h => by simp at h
  | p :: fr, q :: fs, f, v, h => by
    have ih := frL_push (fr := fr) (fs := fs) f v (by simpa using h)
    unfold frL at ih ⊢
    simp only [List.cons_append, List.zip_cons_cons, List.flatMap_cons, ih, List.append_assoc]
def MP.push (P : MP) (v3 rv : Value) : MP := { P with fv := v3, fs := P.fs ++ [rv] }
def St.push (s : St) (f : Fm) : St := { s with fr := s.fr ++ [f] }
section
variable {w : World} {B : Nat} {P : MP} {c : Cf} {s : St} {idle : Int}
theorem MAt.push (h : MAt w B P c s idle) {W w3 : World} {rv v3 : Value} {f : Fm} (f1 : Fr [] w W) (hB : B ≤ w.heap.size) (hrow : W.ownsRow w.heap.size 33 2 rv f.regs.length (flat f.regs)) (f3 : Fr P.fv.ownBlock.toList W w3) (ho : w3.ownsRow B 57 4 v3 (s.fr.length + 1) (frL (s.fr ++ [f]) (P.fs ++ [rv]))) (hk : ∀ k, v3.ownBlock = some k → P.fv.ownBlock = some k ∨ w.heap.size ≤ k) :
    MAt (w3.setCell ⟨P.mb, 38, none⟩ v3) B (P.push v3 rv) c (s.push f) idle ∧ Fr (footM P) w (w3.setCell ⟨P.mb, 38, none⟩ v3) ∧ (∀ k ∈ footM (P.push v3 rv), k ∈ footM P ∨ w.heap.size ≤ k) := by
  have hov : ∀ k, P.fv.ownBlock = some k → k ∈ footM P := fun k hk => List.mem_cons_of_mem _ (mem_rfoot.2 (.inr (.inr (.inr (.inr (.inl hk))))))
  have hBv : ∀ k ∈ P.fv.ownBlock.toList, B ≤ k := fun k hk => by simp at hk; exact (h.r.row.lt k hk).1
  have hmo : P.mb ∉ P.fv.ownBlock.toList := fun hm => h.ne (mem_rfoot.2 (.inr (.inr (.inr (.inr (.inl (by simpa using hm)))))))
  have fw3 : Fr P.fv.ownBlock.toList w w3 := (f1.sub (by simp)).trans f3
  have blk3 : w3.heap[P.mb]? = some (.cells (mCells P c s idle) 77 (0, 0)) := (fw3.block _ (Array.getElem?_eq_some_iff.1 h.blk).1 hmo).trans h.blk
  have oth : ∀ {k cs} {e : TypeId} {z : Nat × Nat}, w.heap[k]? = some (.cells cs e z) → e ≠ 77 → e ≠ 57 → k ∉ P.mb :: P.fv.ownBlock.toList := by
    intro k cs e z hk e1 e2 hm
    rcases List.mem_cons.1 hm with rfl | hm
    · rw [h.blk] at hk
      injection hk with hk
      injection hk with _ hk _
      exact e1 hk.symm
    · simp at hm
      exact own_ne h.r.row hk e2 hm
  have othR : ∀ {e : TypeId} {sz n : Nat} {u : Value} {xs : List Value}, w.ownsRow B e sz u n xs → e ≠ 77 → e ≠ 57 → ∀ k, u.ownBlock = some k → k ∉ P.mb :: P.fv.ownBlock.toList := by
    intro e sz n u xs ho e1 e2 k hk
    rcases ho.2 with ⟨rfl, _⟩ | ⟨g', cap, cur', rfl, _, hgg, _⟩
    · simp [Value.ownBlock] at hk
    · simp [Value.ownBlock] at hk
      subst hk
      exact oth hgg e1 e2
  have F : Fr (P.mb :: P.fv.ownBlock.toList) w (w3.setCell ⟨P.mb, 38, none⟩ v3) := (fw3.sub (fun k hk => .inl (by simp [hk]))).setCell (.inl (by simp)) _
  have hBB : ∀ k ∈ P.mb :: P.fv.ownBlock.toList, B ≤ k := fun k hk => by
    rcases List.mem_cons.1 hk with rfl | hk
    · exact h.base
    · exact hBv k hk
  have FW : Fr (P.mb :: P.fv.ownBlock.toList) W (w3.setCell ⟨P.mb, 38, none⟩ v3) := (f3.sub (fun k hk => .inl (by simp [hk]))).setCell (.inl (by simp)) _
  have hlt : ∀ k ∈ P.mb :: P.fv.ownBlock.toList, k < w.heap.size := fun k hk => by
    rcases List.mem_cons.1 hk with rfl | hk
    · exact h.lt _ (by simp [footM])
    · exact h.lt _ (hov k (by simpa using hk))
  refine ⟨⟨?_, h.base, ?_⟩, F.sub (fun k hk => .inl ?_), ?_⟩
  · exact set_cells 38 v3 blk3
  · refine ⟨?_, h.r.abs, by simp [MP.push, St.push, h.r.lens], ?_, ?_, ?_, ?_, own_fr h.r.out F (othR h.r.out (by decide) (by decide)), h.r.code.fr F hBB, h.r.cabs, h.r.img.fr F hBB, h.r.inp.fr F hBB⟩
    · refine h.r.rep.keeps F (oth h.r.rep.hb (by decide) (by decide)) (othR h.r.rep.row (by decide) (by decide)) (fun x hx => ⟨?_, oth (h.r.rep.th x hx).row (by decide) (by decide)⟩)
      have hb := (h.r.rep.th x hx).own
      unfold Thing.body at hb
      split at hb
      · exact oth hb (by decide) (by decide)
      · exact oth hb (by decide) (by decide)
    · have e : (s.push f).fr.length = s.fr.length + 1 := by simp [St.push]
      rw [e]
      exact ownsRow_setCell_other ho (own_ne ho blk3 (by decide)) _
    · intro i x u hi hu
      by_cases hl : i < s.fr.length
      · simp only [St.push, List.getElem?_append_left hl] at hi
        simp only [MP.push, List.getElem?_append_left (show i < P.fs.length by rw [h.r.lens]; exact hl)] at hu
        have := h.r.rg i x u hi hu
        exact own_fr this F (othR this (by decide) (by decide))
      · simp only [St.push, List.getElem?_append_right (Nat.le_of_not_lt hl)] at hi
        simp only [MP.push, List.getElem?_append_right (show P.fs.length ≤ i by rw [h.r.lens]; exact Nat.le_of_not_lt hl), h.r.lens] at hu
        have h0 : i - s.fr.length = 0 := by
          have := (List.getElem?_eq_some_iff.1 hi).1
          simp at this
          exact this
        rw [h0] at hi hu
        simp at hi hu
        subst hi
        subst hu
        exact own_low (own_fr hrow FW (fun k hk hm => by have := (hrow.lt k hk).1; have := hlt k hm; omega)) hB
    · refine List.pairwise_append.2 ⟨h.r.sep, by simp, ?_⟩
      intro u hu q hq k hk
      simp at hq
      subst hq
      intro hk2
      obtain ⟨_, _, ho2⟩ := h.r.regs hu
      have := (ho2.lt k hk).2
      have := (hrow.lt k hk2).1
      omega
    · intro u hu k hk
      rcases List.mem_append.1 hu with hu | hu
      · exact h.r.sepT u hu k hk
      · simp at hu
        subst hu
        intro hm
        obtain ⟨x, hx, rfl⟩ := List.mem_map.1 hm
        have := (hrow.lt _ hk).1
        have := (Array.getElem?_eq_some_iff.1 (h.r.rep.th x hx).row).1
        omega
  · rcases List.mem_cons.1 hk with rfl | hk
    · simp [footM]
    · exact hov k (by simpa using hk)
  · intro k hk'
    rcases List.mem_cons.1 hk' with rfl | hk'
    · exact .inl (by simp [footM, MP.push])
    · rcases mem_rfoot.1 hk' with h1 | h1 | h1 | h1 | h1 | ⟨u, hu, h1⟩ | h1
      · exact .inl (List.mem_cons_of_mem _ (mem_rfoot.2 (.inl h1)))
      · exact .inl (List.mem_cons_of_mem _ (mem_rfoot.2 (.inr (.inl h1))))
      · exact .inl (List.mem_cons_of_mem _ (mem_rfoot.2 (.inr (.inr (.inl h1)))))
      · exact .inl (List.mem_cons_of_mem _ (mem_rfoot.2 (.inr (.inr (.inr (.inl h1))))))
      · rcases hk k h1 with h2 | h2
        · exact .inl (hov k h2)
        · exact .inr h2
      · rcases List.mem_append.1 hu with hu | hu
        · exact .inl (List.mem_cons_of_mem _ (mem_rfoot.2 (.inr (.inr (.inr (.inr (.inr (.inl ⟨u, hu, h1⟩))))))))
        · simp at hu
          subst hu
          exact .inr (hrow.lt k h1).1
      · exact .inl (List.mem_cons_of_mem _ (mem_rfoot.2 (.inr (.inr (.inr (.inr (.inr (.inr h1))))))))
end
end Go.Proofs.YtkjkpkmmojchiaaGreatDoor

namespace Go.Proofs.YtkjkpkmmojchiaaGreatDoor
open Go.RowKit
set_option linter.unusedVariables false
set_option linter.unusedSimpArgs false

/-- A call as it begins. -/
def newF (i n : Nat) (into : Int) : Fm := ⟨i, 0, List.replicate n (0, 0), into⟩
theorem own_made (w : World) (n : Nat) (hn : n ≤ 10000000) : (w.alloc (.cells (flat (List.replicate n ((0 : Int), (0 : Int)))).toArray 33)).ownsRow w.heap.size 33 2 (.slice (some ⟨w.heap.size, 0, none⟩) n n) n (flat (List.replicate n ((0 : Int), (0 : Int)))) := by
  refine ⟨by rw [flat_length]; simp, .inr ⟨w.heap.size, n, _, rfl, Nat.le_refl _, heap_alloc_new w _, Nat.le_refl _, by unfold maxLen; omega, by simp [flat_length], ?_⟩⟩
  rw [List.take_of_length_le (by simp [flat_length])]
theorem four_new (W : World) (a b c d : Value) : ∀ j u, [a, b, c, d][j]? = some u → (W.alloc (.cells #[a, b, c, d] 57)).cell? ((⟨W.heap.size, 0, none⟩ : Addr).add j) = some u := by
  intro j u hu
  have hadd : (⟨W.heap.size, 0, none⟩ : Addr).add j = ⟨W.heap.size, j, none⟩ := by unfold Addr.add; split <;> simp_all
  rw [hadd]
  exact at_cells (heap_alloc_new W _) j (by simpa using hu)
section
variable {w : World} {B : Nat} {P : MP} {c : Cf} {s : St} {idle : Int}
set_option maxRecDepth 100000 in
set_option maxHeartbeats 4000000 in
theorem enter_mk (h : MAt w B P c s idle) {i n : Nat} {fu : Fu} (hi : P.F[i]? = some fu) (hn : fu.rs = n) (hnm : n ≤ 1000000) (into : Int) (hF : P.F.length ≤ 2000000) (hB : B ≤ w.heap.size) (hl : s.fr.length ≤ 1000000) :
    Calls Tryz.prog 56 #[.pointer (some ⟨P.mb, 0, none⟩), .int .i64 (i : Int), .int .i64 into] w fun e w' => ∃ rv v3, e = .returned rv ∧ MAt w' B (P.push v3 rv) c (s.push (newF i n into)) idle ∧ Fr (footM P) w w' ∧ (∀ k ∈ footM (P.push v3 rv), k ∈ footM P ∨ w.heap.size ≤ k) := by
  obtain ⟨i57, hi57, hz, hz1, hby⟩ := info_parts ci127
  obtain ⟨fb, fo, ea, hfb, hfc⟩ := h.r.code i fu hi
  have hmk := make_run n (by omega) w
  have F1 : Fr [] w (w.alloc (.cells (flat (List.replicate n ((0 : Int), (0 : Int)))).toArray 33)) := (Fr.refl _ _).alloc _
  have O1 := own_made w n (by omega)
  have H1 := h.fr0 F1
  have c30 : w.cell? ⟨P.mb, 30, none⟩ = some (.slice (some ⟨fb, fo, none⟩) P.F.length P.fc) := by rw [← ea]; exact at_cells h.blk 30 rfl
  have cr : w.cell? ⟨fb, fo + i * 4 + 2, none⟩ = some (.int .i64 (n : Int)) := by rw [← hn]; exact hfc.c2
  have hiI : (i : Int) < P.F.length := by have := (List.getElem?_eq_some_iff.1 hi).1; omega
  have hFI : (P.F.length : Int) ≤ 2000000 := by omega
  have HM : Hid (MAt w B P c s idle) := h
  obtain ⟨a0, gc, ev, _⟩ := own_slice h.r.row
  have HEV : Hid (P.fv = .slice a0 s.fr.length gc) := ev
  clear h hfc hfb hi hn
  go_enter Tryz.func56, Tryz.ntmps56
  go_upto_region 2 with fail
  generalize w.alloc (.cells (flat (List.replicate n ((0 : Int), (0 : Int)))).toArray 33) = W at *
  have c38 : W.cell? ⟨P.mb, 38, none⟩ = some (.slice a0 s.fr.length gc) := by rw [← ev]; exact at_cells H1.blk 38 rfl
  have HRW : W.ownsRow B 57 4 (.slice a0 s.fr.length gc) s.fr.length (frL s.fr P.fs) := by rw [← ev]; exact H1.r.row
  have HH1 : Hid (MAt W B P c s idle) := H1
  have HF1 : Hid (Fr [] w W) := F1
  have HO1 : Hid (W.ownsRow w.heap.size 33 2 (.slice (some ⟨w.heap.size, 0, none⟩) n n) n (flat (List.replicate n ((0 : Int), (0 : Int))))) := O1
  have hBW : B ≤ W.heap.size := Nat.le_trans hB F1.size
  have HHB : Hid (B ≤ w.heap.size) := hB
  have KF : ∀ w3 o, (W.alloc o).grownBy w3 (Value.slice a0 s.fr.length gc).ownBlock → Fr P.fv.ownBlock.toList W w3 ∧ w3.cell? ⟨P.mb, 38, none⟩ = some (.slice a0 s.fr.length gc) ∧ w3.frozen? ⟨P.mb, 38, none⟩ = false := by
    intro w3 o hg
    rw [← HEV.out] at hg ⊢
    have f3 : Fr P.fv.ownBlock.toList W w3 := (((Fr.refl [] W).alloc o).sub (by simp)).trans (Fr.ofGrown hg)
    have hne : P.mb ∉ P.fv.ownBlock.toList := fun hm => HH1.out.ne (mem_rfoot.2 (.inr (.inr (.inr (.inr (.inl (by simpa using hm)))))))
    have hb := (f3.block _ (Array.getElem?_eq_some_iff.1 HH1.out.blk).1 hne).trans HH1.out.blk
    exact ⟨f3, at_cells hb 38 rfl, by simp [World.frozen?, hb]⟩
  have HRO : ∀ o, (W.alloc o).ownsRow B 57 4 (.slice a0 s.fr.length gc) s.fr.length (frL s.fr P.fs) := fun o => own_fr HRW ((Fr.refl [] W).alloc o) (by simp)
  clear H1 F1 O1 ev hmk c30 cr HRW hB
  go_wp2_with (refine wpList_append_src _ rfl _ _ 58 rfl B 57 i57 _ 4 48 cu127 hi57 hz hz1 hby rfl (by decide) (.slice a0 s.fr.length gc) s.fr.length (frL s.fr P.fs) rfl (HRO _) (some ⟨W.heap.size, 0, none⟩) 1 1 [.int .i64 (i : Int), .int .i64 0, .slice (some ⟨w.heap.size, 0, none⟩) n n, .int .i64 into] rfl rfl (by simp) (fun ad had => by cases had; exact four_new W _ _ _ _) (by simp [Value.oneCell']) (by unfold maxLen; omega) (by omega) (by rw [World.size_alloc]; exact Nat.le_trans hBW (Nat.le_succ _)) ?_; intro v3 w3 ho3 hg3 hk3; have K3 := KF _ _ hg3; have F3 := K3.1; have c38' := K3.2.1; have z38 := K3.2.2; obtain ⟨a3, c3, rfl, hv3⟩ := own_slice ho3)
  go_ret
  have hk4 : ∀ k, (Value.slice a3 (s.fr.length + 1) c3).ownBlock = some k → P.fv.ownBlock = some k ∨ w.heap.size ≤ k := fun k hk => by
    rcases hk3 k hk with h1 | h1
    · exact .inl (by rw [HEV.out]; exact h1)
    · right
      rw [World.size_alloc] at h1
      have := HF1.out.size
      omega
  have ho4 : w3.ownsRow B 57 4 (.slice a3 (s.fr.length + 1) c3) (s.fr.length + 1) (frL (s.fr ++ [newF i n into]) (P.fs ++ [.slice (some ⟨w.heap.size, 0, none⟩) n n])) := by
    rw [frL_push _ _ HM.out.r.lens.symm]
    exact ho3
  have e1 : (newF i n into).regs.length = n := by simp [newF]
  have h5 := HM.out.push (f := newF i n into) (rv := .slice (some ⟨w.heap.size, 0, none⟩) n n) HF1.out HHB.out (by rw [e1]; exact HO1.out) F3 ho4 hk4
  exact ⟨_, _, rfl, h5.1, h5.2.1, h5.2.2⟩
end
end Go.Proofs.YtkjkpkmmojchiaaGreatDoor
