/-
  Texts of the proof, in their order: MbC, MbD, MbE, MbF; conditions: as each theorem says.
-/
import Derived.Test.YtkjkpkmmojchiaaGreatDoorMgAF
namespace Go.Proofs.YtkjkpkmmojchiaaGreatDoor
open Go.RowKit
set_option linter.unusedVariables false
set_option linter.unusedSimpArgs false

section
variable {w : World} {B : Nat} {P : MP} {c : Cf} {s : St} {idle : Int}
set_option maxRecDepth 100000 in
theorem heap_mk (h : MAt w B P c s idle) : Calls Tryz.prog 42 #[.pointer (some ⟨P.mb, 0, none⟩)] w fun e w' => e = .returned (.pointer (some ⟨P.hb, 0, none⟩)) ∧ w' = w := by
  have C := alive_mk h
  have c37 : w.cell? ⟨P.mb, 37, none⟩ = some (.pointer (some ⟨P.hb, 0, none⟩)) := at_cells h.blk 37 rfl
  clear h
  go_enter Tryz.func42, Tryz.ntmps42
  go_wp2_with (go_at_call 69; refine C.mono ?_; rintro e w' ⟨rfl, hw⟩; rw [hw])
  go_ret
  exact ⟨rfl, rfl⟩
set_option maxRecDepth 100000 in
set_option maxHeartbeats 4000000 in
theorem result_done (h : MAt w B P c s idle) (hd : s.done = true) (hn : s.out.length ≤ 1000000000) : Calls Tryz.prog 41 #[.pointer (some ⟨P.mb, 0, none⟩)] w fun e w' => ∃ oa oc, e = .returned (.agg #[.int .i64 s.en, .int .i64 s.vk, .int .i64 s.vn, .int .i64 s.trap, .slice oa s.out.length oc, .int .i64 s.read, .int .i64 s.steps, .int .i64 s.used]) ∧ w'.ownsRow w.heap.size 2 1 (.slice oa s.out.length oc) s.out.length (s.out.map (Value.int .i64)) ∧ Fr [] w w' := by
  have F1 : Fr [] w (w.alloc (.cells #[.int .i64 0, .int .i64 0, .int .i64 0, .int .i64 0, .slice none 0 0, .int .i64 0, .int .i64 0, .int .i64 0] 35)) := (Fr.refl _ _).alloc _
  have b1 := heap_alloc_new w (.cells #[.int .i64 0, .int .i64 0, .int .i64 0, .int .i64 0, .slice none 0 0, .int .i64 0, .int .i64 0, .int .i64 0] 35)
  have H1 := h.fr0 F1
  have hsz : (w.alloc (.cells #[.int .i64 0, .int .i64 0, .int .i64 0, .int .i64 0, .slice none 0 0, .int .i64 0, .int .i64 0, .int .i64 0] 35)).heap.size = w.heap.size + 1 := by simp
  have HLT : Hid (∀ k ∈ footM P, k < w.heap.size) := h.lt
  clear h
  go_enter Tryz.func41, Tryz.ntmps41
  go_upto_region 1 with fail
  generalize w.alloc (.cells #[.int .i64 0, .int .i64 0, .int .i64 0, .int .i64 0, .slice none 0 0, .int .i64 0, .int .i64 0, .int .i64 0] 35) = W at *
  have C := alive_mk H1
  have c43 : W.cell? ⟨P.mb, 43, none⟩ = some (.bool true) := by rw [← hd]; exact at_cells H1.blk 43 rfl
  have c44 : W.cell? ⟨P.mb, 44, none⟩ = some (.int .i64 s.en) := at_cells H1.blk 44 rfl
  have c45 : W.cell? ⟨P.mb, 45, none⟩ = some (.int .i64 s.vk) := at_cells H1.blk 45 rfl
  have c46 : W.cell? ⟨P.mb, 46, none⟩ = some (.int .i64 s.vn) := at_cells H1.blk 46 rfl
  have c47 : W.cell? ⟨P.mb, 47, none⟩ = some (.int .i64 s.trap) := at_cells H1.blk 47 rfl
  have nmb : P.mb ≠ W.heap.size := by have := H1.lt P.mb (by simp [footM]); omega
  have HH1 : Hid (MAt W B P c s idle) := H1
  have HF1 : Hid (Fr [] w W) := F1
  have HB1 : Hid (W.heap[w.heap.size]? = some (.cells #[.int .i64 0, .int .i64 0, .int .i64 0, .int .i64 0, .slice none 0 0, .int .i64 0, .int .i64 0, .int .i64 0] 35 (0, 0))) := b1
  have HSZ : Hid (W.heap.size = w.heap.size + 1) := hsz
  have k43 : ∀ o, (W.alloc o).cell? ⟨P.mb, 43, none⟩ = some (.bool true) := fun o => ((Fr.refl [] W).alloc o).cell1 c43 (by simp)
  have k44 : ∀ o, (W.alloc o).cell? ⟨P.mb, 44, none⟩ = some (.int .i64 s.en) := fun o => ((Fr.refl [] W).alloc o).cell1 c44 (by simp)
  have k45 : ∀ o, (W.alloc o).cell? ⟨P.mb, 45, none⟩ = some (.int .i64 s.vk) := fun o => ((Fr.refl [] W).alloc o).cell1 c45 (by simp)
  have k46 : ∀ o, (W.alloc o).cell? ⟨P.mb, 46, none⟩ = some (.int .i64 s.vn) := fun o => ((Fr.refl [] W).alloc o).cell1 c46 (by simp)
  have k47 : ∀ o, (W.alloc o).cell? ⟨P.mb, 47, none⟩ = some (.int .i64 s.trap) := fun o => ((Fr.refl [] W).alloc o).cell1 c47 (by simp)
  clear F1 H1 b1 hsz c43 c44 c45 c46 c47 hd
  go_upto_region 3 with (go_at_call 69; refine C.mono ?_; rintro e w' ⟨rfl, hw⟩; rw [hw])
  go_upto_region 6 with fail
  have FV : Fr [] W (W.alloc (.cells #[.int .i64 s.en, .int .i64 s.vk, .int .i64 s.vn, .int .i64 s.trap] 75)) := (Fr.refl _ _).alloc _
  have bV := heap_alloc_new W (.cells #[.int .i64 s.en, .int .i64 s.vk, .int .i64 s.vn, .int .i64 s.trap] 75)
  clear k43 k44 k45 k46 k47 C
  generalize W.alloc (.cells #[.int .i64 s.en, .int .i64 s.vk, .int .i64 s.vn, .int .i64 s.trap] 75) = V at *
  have MV := HH1.out.fr0 FV
  obtain ⟨ra, rc, eo, _⟩ := own_slice MV.r.out
  have q40 : V.cell? ⟨P.mb, 40, none⟩ = some (.slice ra s.out.length rc) := by rw [← eo]; exact at_cells MV.blk 40 rfl
  have q39 : V.cell? ⟨P.mb, 39, none⟩ = some (.int .i64 (s.read : Int)) := at_cells MV.blk 39 rfl
  have q41 : V.cell? ⟨P.mb, 41, none⟩ = some (.int .i64 s.steps) := at_cells MV.blk 41 rfl
  have q37 : V.cell? ⟨P.mb, 37, none⟩ = some (.pointer (some ⟨P.hb, 0, none⟩)) := at_cells MV.blk 37 rfl
  have nw : P.mb ≠ w.heap.size := by have := HLT.out P.mb (by simp [footM]); omega
  have nW : W.heap.size ≠ w.heap.size := by have := HSZ.out; omega
  have m40 : ∀ w', Fr [w.heap.size] V w' → w'.cell? ⟨P.mb, 40, none⟩ = some (.slice ra s.out.length rc) := fun w' f => f.cell1 q40 (by simpa using nw)
  have m39 : ∀ w', Fr [w.heap.size] V w' → w'.cell? ⟨P.mb, 39, none⟩ = some (.int .i64 (s.read : Int)) := fun w' f => f.cell1 q39 (by simpa using nw)
  have m41 : ∀ w', Fr [w.heap.size] V w' → w'.cell? ⟨P.mb, 41, none⟩ = some (.int .i64 s.steps) := fun w' f => f.cell1 q41 (by simpa using nw)
  have m37 : ∀ w', Fr [w.heap.size] V w' → w'.cell? ⟨P.mb, 37, none⟩ = some (.pointer (some ⟨P.hb, 0, none⟩)) := fun w' f => f.cell1 q37 (by simpa using nw)
  have h0 : ∀ w', Fr [w.heap.size] V w' → w'.cell? ⟨W.heap.size, 0, none⟩ = some (.int .i64 s.en) := fun w' f => f.cell1 (at_cells bV 0 rfl) (by simpa using nW)
  have h1 : ∀ w', Fr [w.heap.size] V w' → w'.cell? ⟨W.heap.size, 1, none⟩ = some (.int .i64 s.vk) := fun w' f => f.cell1 (at_cells bV 1 rfl) (by simpa using nW)
  have h2 : ∀ w', Fr [w.heap.size] V w' → w'.cell? ⟨W.heap.size, 2, none⟩ = some (.int .i64 s.vn) := fun w' f => f.cell1 (at_cells bV 2 rfl) (by simpa using nW)
  have h3 : ∀ w', Fr [w.heap.size] V w' → w'.cell? ⟨W.heap.size, 3, none⟩ = some (.int .i64 s.trap) := fun w' f => f.cell1 (at_cells bV 3 rfl) (by simpa using nW)
  have bw := (FV.block _ (Array.getElem?_eq_some_iff.1 HB1.out).1 (by simp)).trans HB1.out
  have HBW : Hid (V.heap[w.heap.size]? = some (.cells #[.int .i64 0, .int .i64 0, .int .i64 0, .int .i64 0, .slice none 0 0, .int .i64 0, .int .i64 0, .int .i64 0] 35 (0, 0))) := bw
  have C54 : ∀ w', Fr [] V w' → Calls Tryz.prog 54 #[.slice ra s.out.length rc] w' (fun e w1 => ∃ oa oc, e = .returned (.slice oa s.out.length oc) ∧ Hid (w1.ownsRow w'.heap.size 2 1 (.slice oa s.out.length oc) s.out.length (s.out.map (Value.int .i64))) ∧ Fr [] V w1) := fun w' f => by
    have ho : w'.ownsRow B 2 1 (.slice ra s.out.length rc) s.out.length (s.out.map (Value.int .i64)) := by rw [← eo]; exact own_fr MV.r.out f (by simp)
    refine (clone54 w' ra s.out.length rc (s.out.map (Value.int .i64)) (by simp) ?_ ?_ (by intro u hu; simp at hu; obtain ⟨k, _, rfl⟩ := hu; rfl) (by omega)).mono fun e w1 ⟨v, g1, g2, g3⟩ => ?_
    · intro e
      rcases ho.2 with ⟨e2, e3⟩ | ⟨g, cap, cur, e2, _⟩
      · injection e2 with e4 e5 e6
        exact ⟨e3, e6⟩
      · injection e2 with e4
        rw [e] at e4
        cases e4
    · intro ad ha j u hu
      obtain ⟨g, gc, e2, k0, _⟩ := own_cells ho hu
      injection e2 with e4
      rw [ha] at e4
      injection e4 with e4
      subst e4
      rw [Addr.add_lit, Nat.zero_add]
      exact k0
    · obtain ⟨oa, oc, e2, _⟩ := own_slice g2
      subst e2
      exact ⟨oa, oc, g1, g2, f.trans g3⟩
  have C50 : ∀ w', Fr [] V w' → Calls Tryz.prog 50 #[.pointer (some ⟨P.hb, 0, none⟩)] w' (fun e w1 => e = .returned (.int .i64 s.used) ∧ w1 = w') := fun w' f => used_any w' (MV.fr0 f).r.rep.hb
  have HS8 : ∀ w', Fr [] V w' → ∀ u0 u1 u2 u3 u4 u5 u6 u7, Fr [w.heap.size] V ((((((((w'.setCell ⟨w.heap.size, 0, none⟩ u0).setCell ⟨w.heap.size, 1, none⟩ u1).setCell ⟨w.heap.size, 2, none⟩ u2).setCell ⟨w.heap.size, 3, none⟩ u3).setCell ⟨w.heap.size, 4, none⟩ u4).setCell ⟨w.heap.size, 5, none⟩ u5).setCell ⟨w.heap.size, 6, none⟩ u6).setCell ⟨w.heap.size, 7, none⟩ u7) := fun w' f' u0 u1 u2 u3 u4 u5 u6 u7 => (((((((((f'.sub (T := [w.heap.size]) (by simp)).setCell (.inl (by simp)) _).setCell (.inl (by simp)) _).setCell (.inl (by simp)) _).setCell (.inl (by simp)) _).setCell (.inl (by simp)) _).setCell (.inl (by simp)) _).setCell (.inl (by simp)) _).setCell (.inl (by simp)) _)
  have RF0 : Fr [] V V := Fr.refl _ _
  have RF : Fr [w.heap.size] V V := Fr.refl _ _
  have HU : ∀ w', Fr [] V w' → Fr [w.heap.size] V w' := fun w' h => h.sub (by simp)
  have HD0 : ∀ w' : World, Fr [] V w' → Fr [] V w'.drew := fun w' h => h.drew
  have HD : ∀ w' : World, Fr [w.heap.size] V w' → Fr [w.heap.size] V w'.drew := fun w' h => h.drew
  have HFVW : Hid (Fr [] w V) := HF1.out.trans FV
  have KC : ∀ w', Fr [] V w' → ∀ j, j < 8 → (∃ u, w'.cell? ⟨w.heap.size, j, none⟩ = some u) ∧ w'.frozen? ⟨w.heap.size, j, none⟩ = false := fun w' f j hj => by
    have b := (f.block _ (Array.getElem?_eq_some_iff.1 HBW.out).1 (by simp)).trans HBW.out
    exact ⟨⟨_, at_cells b j (Array.getElem?_eq_getElem (by simpa using hj))⟩, by simp [World.frozen?, b]⟩
  have HMV : Hid (MAt V B P c s idle) := MV
  clear FV bV q40 q39 q41 q37 bw MV eo
  go_wp2_with fail
  go_region_held3 (fun w' : World => Fr [w.heap.size] V w')
    (with_reducible (first | assumption | exact HD _ (by assumption) | exact HU _ (by assumption) | exact HD _ (HU _ (by assumption)) | exact HS8 _ (by assumption) _ _ _ _ _ _ _ _ | exact HD _ (HS8 _ (by assumption) _ _ _ _ _ _ _ _)))
    (first
      | (go_at_call 54; with_reducible (refine (C54 _ (by first | exact RF0 | exact HD0 _ RF0)).mono ?_); rintro e w5 ⟨oa, oc, rfl, hoy, F5⟩)
      | (go_at_call 50; with_reducible (refine (C50 _ (by assumption)).mono ?_); rintro e w6 ⟨rfl, hw6⟩; rw [hw6]; obtain ⟨⟨x0, Q0⟩, z0⟩ := KC _ F5 0 (by omega); obtain ⟨⟨x1, Q1⟩, z1⟩ := KC _ F5 1 (by omega); obtain ⟨⟨x2, Q2⟩, z2⟩ := KC _ F5 2 (by omega); obtain ⟨⟨x3, Q3⟩, z3⟩ := KC _ F5 3 (by omega); obtain ⟨⟨x4, Q4⟩, z4⟩ := KC _ F5 4 (by omega); obtain ⟨⟨x5, Q5⟩, z5⟩ := KC _ F5 5 (by omega); obtain ⟨⟨x6, Q6⟩, z6⟩ := KC _ F5 6 (by omega); obtain ⟨⟨x7, Q7⟩, z7⟩ := KC _ F5 7 (by omega)))
  all_goals
    have b9 := (F5.block _ (Array.getElem?_eq_some_iff.1 HBW.out).1 (by simp)).trans HBW.out
    have hres := (set_cells 7 (.int .i64 s.used) (set_cells 6 (.int .i64 s.steps) (set_cells 5 (.int .i64 (s.read : Int)) (set_cells 4 (.slice oa s.out.length oc) (set_cells 3 (.int .i64 s.trap) (set_cells 2 (.int .i64 s.vn) (set_cells 1 (.int .i64 s.vk) (set_cells 0 (.int .i64 s.en) b9))))))))
    have HFV : Hid (Fr [] w w5) := HFVW.out.trans F5
    have HO : Hid (w5.ownsRow w.heap.size 2 1 (.slice oa s.out.length oc) s.out.length (s.out.map (Value.int .i64))) := own_low hoy.out (by have := HFVW.out.size; first | exact this | exact Nat.le_trans this (Nat.le_refl _))
    have hne9 : (Value.slice oa s.out.length oc).ownBlock ≠ some w.heap.size := own_ne HO.out b9 (by decide)
    have HRES : Hid (_ = some _) := hres
    have HNE : Hid ((Value.slice oa s.out.length oc).ownBlock ≠ some w.heap.size) := hne9
    clear C54 C50 HS8 RF0 RF HU HD HD0 KC m40 m39 m41 m37 h0 h1 h2 h3 hoy F5 b9 hres hne9 Q0 Q1 Q2 Q3 Q4 Q5 Q6 Q7 z0 z1 z2 z3 z4 z5 z6 z7
    go_wp2
    have hne9 := HNE.out
    refine bodyPost_ret (results_cell_row (by rfl) _ _ w.heap.size 35 _ (0, 0) _ rfl HRES.out Tryz.underlying35 rfl (by kernel_rfl)) rfl ⟨oa, oc, rfl, (ownsRow_setCell_other (ownsRow_setCell_other (ownsRow_setCell_other (ownsRow_setCell_other (ownsRow_setCell_other (ownsRow_setCell_other (ownsRow_setCell_other (ownsRow_setCell_other HO.out hne9 _) hne9 _) hne9 _) hne9 _) hne9 _) hne9 _) hne9 _) hne9 _), ((((((((((HFV.out.sub (T := [w.heap.size]) (by simp)).setCell (.inl (by simp)) _).setCell (.inl (by simp)) _).setCell (.inl (by simp)) _).setCell (.inl (by simp)) _).setCell (.inl (by simp)) _).setCell (.inl (by simp)) _).setCell (.inl (by simp)) _).setCell (.inl (by simp)) _)).sub (fun k hk => .inr (by simp at hk; omega))⟩
end
end Go.Proofs.YtkjkpkmmojchiaaGreatDoor

namespace Go.Proofs.YtkjkpkmmojchiaaGreatDoor
open Go.RowKit
set_option linter.unusedVariables false
set_option linter.unusedSimpArgs false

set_option maxRecDepth 100000 in
theorem withinM (w : World) (a n : Int) : Calls Tryz.prog 75 #[.int .i64 a, .int .i64 n] w fun e w' => e = .returned (.bool (decide (0 ≤ a) && decide (a < n))) ∧ w' = w := by
  go_enter Tryz.func75, Tryz.ntmps75
  by_cases h : 0 ≤ a
  · have h1 : decide (a ≥ 0) = true := by simpa using h
    have h2 : decide (0 ≤ a) = true := by simpa using h
    go_wp2
    go_ret
    exact ⟨by simp [h2], rfl⟩
  · have h1 : decide (a ≥ 0) = false := by simpa using h
    have h2 : decide (0 ≤ a) = false := by simpa using h
    go_wp2
    go_ret
    exact ⟨by simp [h2], rfl⟩
section
variable {w : World} {B : Nat} {P : MP} {c : Cf} {s : St} {idle : Int}
set_option maxRecDepth 100000 in
set_option maxHeartbeats 4000000 in
theorem reg_in (h : MAt w B P c s idle) {N g gc : Nat} {f : Fm} {v : Value} (t : Top w B P s N g gc f v) (hN : N ≤ 1000000) {a : Nat} {k m : Int} (ha : f.regs[a]? = some (k, m)) (hr : f.regs.length ≤ 1000) :
    Calls Tryz.prog 35 #[.pointer (some ⟨P.mb, 0, none⟩), .int .i64 (a : Int)] w fun e w' => e = .returned (.agg #[.int .i64 k, .int .i64 m]) ∧ Fr [] w w' := by
  have F0 : Fr [] w (w.alloc (.cells #[.int .i64 0, .int .i64 0] 33)) := (Fr.refl _ _).alloc _
  have b0 := heap_alloc_new w (.cells #[.int .i64 0, .int .i64 0] 33)
  have H0 := h.fr0 F0
  have T0 := t.fr F0 (by simp)
  have nn : ∀ k, k ∈ footM P → k ≠ w.heap.size := fun k hk => by have := h.lt k hk; omega
  clear h t
  go_enter Tryz.func35, Tryz.ntmps35
  go_upto_region 1 with fail
  generalize w.alloc (.cells #[.int .i64 0, .int .i64 0] 33) = W at *
  obtain ⟨rb, rc, ev, k0, k1, hz, hrB, hne⟩ := H0.r.reg T0 ha
  have haI : (a : Int) < f.regs.length := by have := (List.getElem?_eq_some_iff.1 ha).1; omega
  have hrI : (f.regs.length : Int) ≤ 1000 := by omega
  have c38 : W.cell? ⟨P.mb, 38, none⟩ = some (.slice (some ⟨g, 0, none⟩) (N + 1) gc) := by rw [← T0.fvs]; exact at_cells H0.blk 38 rfl
  have CA := alive_mk H0
  have CL := last_mk H0 T0 hN
  have CW := fun w => withinM w (a : Int) (f.regs.length : Int)
  have hd1 : decide (0 ≤ (a : Int)) = true := by simp
  have hd2 : decide ((a : Int) < (f.regs.length : Int)) = true := by simpa using haI
  rw [hd1, hd2] at CW
  simp only [Bool.and_self] at CW
  have c2 : W.cell? ⟨g, N * 4 + 2, none⟩ = some (.slice (some ⟨rb, 0, none⟩) f.regs.length rc) := by rw [← ev]; exact T0.c2
  have HH : Hid (MAt W B P c s idle) := H0
  have HT : Hid (Top W B P s N g gc f v) := T0
  have HF : Hid (Fr [] w W) := F0
  have HB : Hid (W.heap[w.heap.size]? = some (.cells #[.int .i64 0, .int .i64 0] 33 (0, 0))) := b0
  have hz1 : ((N : Int) + 1 == 0) = false := by simp; omega
  have HK : Hid (W.cell? ⟨rb, a * 2, none⟩ = some (.int .i64 k) ∧ W.cell? ⟨rb, a * 2 + 1, none⟩ = some (.int .i64 m)) := ⟨k0, k1⟩
  have HC2 : Hid (W.cell? ⟨g, N * 4 + 2, none⟩ = some (.slice (some ⟨rb, 0, none⟩) f.regs.length rc)) := c2
  have HNR : Hid (rb ≠ w.heap.size) := nn rb (HT.out.foot.2 rb (by rw [ev]; rfl))
  clear H0 T0 F0 b0 hz hrB hne k0 k1 c2 hd1 hd2
  go_wp2_with (first
    | (go_at_call 69; refine CA.mono ?_; rintro e w' ⟨rfl, hw⟩; rw [hw])
    | fail)
  with_reducible (refine CL.mono ?_)
  rintro e W1 ⟨rfl, f1⟩
  have c2 := f1.cell1 HC2.out (by simp)
  have HF1 : Hid (Fr [] W W1) := f1
  have CL2 := last_mk (HH.out.fr0 f1) (HT.out.fr f1 (by simp)) hN
  clear f1 CL CA
  go_wp2_with (go_at_call 75; refine (CW _).mono ?_; rintro e w' ⟨rfl, hw⟩; rw [hw])
  with_reducible (refine CL2.mono ?_)
  rintro e W2 ⟨rfl, f2⟩
  have G2 : Hid (Fr [] W W2) := HF1.out.trans f2
  have c3 := G2.out.cell1 HC2.out (by simp)
  have k0 := G2.out.cell1 HK.out.1 (by simp)
  have k1 := G2.out.cell1 HK.out.2 (by simp)
  have b2 := (G2.out.block _ (Array.getElem?_eq_some_iff.1 HB.out).1 (by simp)).trans HB.out
  have d0 : W2.cell? ⟨w.heap.size, 0, none⟩ = some (.int .i64 0) := at_cells b2 0 rfl
  have d1 : W2.cell? ⟨w.heap.size, 1, none⟩ = some (.int .i64 0) := at_cells b2 1 rfl
  have z0 : ∀ i, W2.frozen? ⟨w.heap.size, i, none⟩ = false := fun i => by simp [World.frozen?, b2]
  have HB2 : Hid (W2.heap[w.heap.size]? = some (.cells #[.int .i64 0, .int .i64 0] 33 (0, 0))) := b2
  clear CL2 CW f2 c2 b2
  go_wp2
  have hres := set_cells 1 (.int .i64 m) (set_cells 0 (.int .i64 k) HB2.out)
  exact bodyPost_ret (results_cell_row (by rfl) _ _ w.heap.size 33 _ (0, 0) _ rfl hres Tryz.underlying33 rfl (by kernel_rfl)) rfl ⟨rfl, ((HF.out.trans G2.out).setCell (.inr (by simp)) _).setCell (.inr (by simp)) _⟩
end
end Go.Proofs.YtkjkpkmmojchiaaGreatDoor

namespace Go.Proofs.YtkjkpkmmojchiaaGreatDoor
open Go.RowKit
set_option linter.unusedVariables false
set_option linter.unusedSimpArgs false

theorem frL_sl : ∀ {fr : List Fm} {fs : List Value} {i : Nat} (v : Value), fr.length = fs.length → frL fr (fs.set i v) = (frL fr fs).set (i * 4 + 2) v
  | [], fs, i, v, hl => by simp [frL]
  | p :: fr, [], i, v, hl => by simp at hl
  | p :: fr, q :: fs, 0, v, hl => by simp [frL, frC]
  | p :: fr, q :: fs, i + 1, v, hl => by
    have ih := frL_sl (fr := fr) (fs := fs) (i := i) v (by simpa using hl)
    unfold frL at ih ⊢
    rw [show (i + 1) * 4 + 2 = (i * 4 + 2) + 4 by omega]
    simp only [List.set_cons_succ, List.zip_cons_cons, List.flatMap_cons, frC, List.cons_append, List.nil_append, ih]
theorem frL_one {fr : List Fm} {fs : List Value} (h : ∀ v ∈ fs, v.oneCell' = true) : ∀ u ∈ frL fr fs, u.oneCell' = true := by
  intro u hu
  obtain ⟨p, hp, hx⟩ := List.mem_flatMap.1 hu
  have h2 := (List.of_mem_zip hp).2
  simp [frC] at hx
  rcases hx with rfl | rfl | rfl | rfl
  · rfl
  · rfl
  · exact h _ h2
  · rfl
/-- Registers, as they lie in a row. -/
structure RgAt (w : World) (v : Value) (regs : List (Int × Int)) : Prop where
  sl : ∃ a c, v = .slice a regs.length c ∧ Row w a (flat regs) ∧ (a = none → regs.length = 0 ∧ c = 0)
theorem RgAt.of {w : World} {B : Nat} {v : Value} {regs : List (Int × Int)} (h : w.ownsRow B 33 2 v regs.length (flat regs)) : RgAt w v regs := by
  obtain ⟨a, c, e, h0⟩ := own_slice h
  refine ⟨a, c, e, ?_, h0⟩
  intro ad ha j u hu
  obtain ⟨g, gc, e2, k0, _⟩ := own_cells h hu
  rw [e] at e2
  injection e2 with e4
  rw [ha] at e4
  injection e4 with e4
  subst e4
  rw [Addr.add_lit, Nat.zero_add]
  exact k0
theorem Row.fr {w w' : World} {a : Option Addr} {xs : List Value} (h : Row w a xs) (f : Fr [] w w') : Row w' a xs := fun ad ha j u hu => f.cell1 (h ad ha j u hu) (by simp)
theorem RgAt.fr {w w' : World} {v : Value} {regs : List (Int × Int)} (h : RgAt w v regs) (f : Fr [] w w') : RgAt w' v regs := by
  obtain ⟨a, c, e, h1, h2⟩ := h.sl
  exact ⟨a, c, e, h1.fr f, h2⟩
/-- How far the copying of calls has come. -/
structure CpR (w wr : World) (fr : List Fm) (fs : List Value) (v : Value) (p : Nat) (gs : List Value) : Prop where
  len : gs.length = fr.length
  row : wr.ownsRow w.heap.size 57 4 v fr.length (frL fr gs)
  new : ∀ (i : Nat) (f : Fm) (u : Value), i < p → fr[i]? = some f → gs[i]? = some u → wr.ownsRow w.heap.size 33 2 u f.regs.length (flat f.regs)
  old : ∀ i, p ≤ i → gs[i]? = fs[i]?
  sep : ∀ (i j : Nat) (u u' : Value), i < j → j < p → gs[i]? = some u → gs[j]? = some u' → ∀ k, u.ownBlock = some k → u'.ownBlock ≠ some k
  fr : Fr [] w wr
set_option maxRecDepth 100000 in
set_option maxHeartbeats 4000000 in
theorem copiedFrames_any (w : World) (fr : List Fm) (fs : List Value) (a : Option Addr) (cap : Nat) (hl : fs.length = fr.length) (hn : fr.length ≤ 1000000) (hrow : Row w a (frL fr fs)) (h0 : a = none → fr.length = 0 ∧ cap = 0) (hr : ∀ (i : Nat) (f : Fm) (u : Value), fr[i]? = some f → fs[i]? = some u → RgAt w u f.regs ∧ f.regs.length ≤ 1000000) :
    Calls Tryz.prog 71 #[.slice a fr.length cap] w fun e w' => ∃ b c gs, e = .returned (.slice b fr.length c) ∧ CpR w w' fr fs (.slice b fr.length c) fr.length gs := by
  have h1 : ∀ v ∈ fs, v.oneCell' = true := by
    intro v hv
    obtain ⟨i, hi⟩ := List.getElem?_of_mem hv
    have hlt := (List.getElem?_eq_some_iff.1 hi).1
    obtain ⟨a, c, e, _⟩ := (hr i (fr[i]'(by omega)) v (List.getElem?_eq_getElem _) hi).1.sl
    rw [e]
    rfl
  have C := clone127 w a fr.length cap (frL fr fs) (by rw [frL_len hl.symm]) h0 hrow (frL_one h1) (by omega)
  have HR : Hid (∀ (i : Nat) (f : Fm) (u : Value), fr[i]? = some f → fs[i]? = some u → RgAt w u f.regs ∧ f.regs.length ≤ 1000000) := hr
  have hnI : (fr.length : Int) ≤ 1000000 := by omega
  clear hr hrow h1
  go_enter Tryz.func71, Tryz.ntmps71
  go_wp2_with fail
  with_reducible (refine C.mono ?_)
  rintro e X ⟨v, rfl, ho, fX⟩
  obtain ⟨b, bc, rfl, _⟩ := own_slice ho
  have HI : Hid (CpR w X fr fs (.slice b fr.length bc) 0 fs) := ⟨hl, ho, fun i f u hi => by omega, fun i _ => rfl, fun i j u u' h1 h2 => by omega, fX⟩
  clear C ho fX h0
  go_wp2
  go_loopw [9] (fun i wr => ∃ (p : Nat) (gs : List Value), p ≤ fr.length ∧ i = .int .i64 p ∧ Hid (CpR w wr fr fs (.slice b fr.length bc) p gs)) (fun i _ => fr.length - (intOf i).toNat)
  case atStart => exact ⟨0, fs, Nat.zero_le _, rfl, HI⟩
  case round =>
    obtain ⟨p, gs, hp, rfl, I⟩ := hrel
    by_cases hlt : p < fr.length
    · have hpI : (p : Int) < fr.length := by omega
      have hf : fr[p]? = some fr[p] := List.getElem?_eq_getElem _
      have hu : gs[p]? = some (gs[p]'(by rw [I.out.len]; exact hlt)) := List.getElem?_eq_getElem _
      generalize fr[p] = f at hf
      generalize gs[p]'(by rw [I.out.len]; exact hlt) = u at hu
      obtain ⟨g, gc, e1, k2, hz, hgl⟩ := own_cells I.out.row (j := p * 4 + 2) (x := u) (by simpa [frC] using frL_at hf hu 2 (by omega))
      cases e1
      have hfs : fs[p]? = some u := by rw [← I.out.old p (Nat.le_refl _)]; exact hu
      obtain ⟨hra, hrl⟩ := HR.out p f u hf hfs
      obtain ⟨ra, rc, eu, hrow, hrn⟩ := (hra.fr I.out.fr).sl
      have CC := clone128 wr ra f.regs.length rc (flat f.regs) (by rw [flat_length]) hrn hrow (flat_one _) (by omega)
      rw [eu] at k2
      have HZ : Hid (∀ i, wr.frozen? ⟨g, i, none⟩ = false) := hz
      have HF : Hid (fr[p]? = some f) := hf
      have HU : Hid (gs[p]? = some u) := hu
      have HGL : Hid (g < wr.heap.size) := hgl
      have HK2 : Hid (wr.cell? ⟨g, p * 4 + 2, none⟩ = some (.slice ra f.regs.length rc)) := k2
      clear hz hf hu hgl hra hrl hrow hrn hfs
      go_wp2_with fail
      with_reducible (refine CC.mono ?_)
      rintro e Y ⟨nv, rfl, hn2, fY⟩
      obtain ⟨na, nc, rfl, _⟩ := own_slice hn2
      have q2 := fY.cell1 HK2.out (by simp)
      have z2 : Y.frozen? ⟨g, p * 4 + 2, none⟩ = false := by
        have := HZ.out (p * 4 + 2)
        simp only [World.frozen?] at this ⊢
        rw [fY.block _ HGL.out (by simp)]
        exact this
      have HFY : Hid (Fr [] wr Y) := fY
      have HN2 : Hid (Y.ownsRow wr.heap.size 33 2 (.slice na f.regs.length nc) f.regs.length (flat f.regs)) := hn2
      clear CC hn2 fY k2
      go_wp2
      go_roundw
      case rel =>
        have I5 := I.out
        have fs1 : Fr [g] Y (Y.setCell ⟨g, p * 4 + 2, none⟩ (.slice na f.regs.length nc)) := (Fr.refl _ _).setCell (.inl (by simp)) _
        have rowY := own_fr I5.row HFY.out (by simp)
        have hgb : ∃ cur, Y.heap[g]? = some (.cells cur 57 (0, 0)) := by
          rcases rowY.2 with ⟨e1, _⟩ | ⟨g', cap, cur, e1, _, hgg, _⟩
          · cases e1
          · cases e1; exact ⟨cur, hgg⟩
        obtain ⟨cur, hcur⟩ := hgb
        have hlen : fr.length = gs.length := I5.len.symm
        refine ⟨p + 1, gs.set p (.slice na f.regs.length nc), hlt, by go_num, ?_⟩
        unfold Hid
        refine ⟨by rw [List.length_set]; exact I5.len, ?_, ?_, ?_, ?_, ?_⟩
        · rw [frL_sl _ hlen]
          exact own_set rowY _ _ (by omega)
        · intro i f' u' hi hfi hui
          by_cases e : i = p
          · subst e
            rw [HF.out] at hfi
            cases hfi
            rw [List.getElem?_set_self (by rw [I5.len]; exact hlt)] at hui
            cases hui
            have := own_fr HN2.out fs1 (fun k hk hm => by simp at hm; subst hm; exact own_ne HN2.out hcur (by decide) hk)
            exact own_low this I5.fr.size
          · rw [List.getElem?_set_ne (Ne.symm e)] at hui
            have h2 := own_fr (I5.new i f' u' (by omega) hfi hui) HFY.out (by simp)
            exact own_fr h2 fs1 (fun k hk hm => by simp at hm; subst hm; exact own_ne h2 hcur (by decide) hk)
        · intro i hi
          rw [List.getElem?_set_ne (by omega)]
          exact I5.old i (by omega)
        · intro i j u1 u2 hij hj h1 h2 k hk
          rw [List.getElem?_set_ne (by omega)] at h1
          by_cases e : j = p
          · subst e
            rw [List.getElem?_set_self (by rw [I5.len]; exact hlt)] at h2
            cases h2
            intro hk2
            have h3 := (HN2.out.lt k hk2).1
            have h4 := ((I5.new i (fr[i]'(by omega)) u1 hij (List.getElem?_eq_getElem _) h1).lt k hk).2
            omega
          · rw [List.getElem?_set_ne (Ne.symm e)] at h2
            exact I5.sep i j u1 u2 hij (by omega) h1 h2 k hk
        · exact ((I5.fr.trans HFY.out).sub (T := [g]) (by simp)).trans fs1 |>.sub (fun k hk => .inr (by
            simp at hk
            subst hk
            exact (I5.row.lt k rfl).1))
      case measure => simp [intOf]; omega
    · obtain rfl : p = fr.length := by omega
      go_wp2
      go_ret
      exact ⟨b, bc, gs, rfl, I.out⟩
section
variable {w : World} {B : Nat} {P : MP} {c : Cf} {s : St} {idle : Int}
set_option maxRecDepth 100000 in
theorem frames_mk (h : MAt w B P c s idle) (hn : s.fr.length ≤ 1000000) (hr : ∀ f ∈ s.fr, f.regs.length ≤ 1000000) : Calls Tryz.prog 34 #[.pointer (some ⟨P.mb, 0, none⟩)] w fun e w' => ∃ b cc gs, e = .returned (.slice b s.fr.length cc) ∧ CpR w w' s.fr P.fs (.slice b s.fr.length cc) s.fr.length gs := by
  obtain ⟨a, cap, ev, h0⟩ := own_slice h.r.row
  have C := copiedFrames_any w s.fr P.fs a cap h.r.lens hn (by
    intro ad ha j u hu
    obtain ⟨g, gc, e2, k0, _⟩ := own_cells h.r.row hu
    rw [ev] at e2
    injection e2 with e4
    rw [ha] at e4
    injection e4 with e4
    subst e4
    rw [Addr.add_lit, Nat.zero_add]
    exact k0) h0 (fun i f u hi hu => ⟨RgAt.of (h.r.rg i f u hi hu), hr f (List.mem_of_getElem? hi)⟩)
  have CA := alive_mk h
  have c38 : w.cell? ⟨P.mb, 38, none⟩ = some (.slice a s.fr.length cap) := by rw [← ev]; exact at_cells h.blk 38 rfl
  clear h h0 ev
  go_enter Tryz.func34, Tryz.ntmps34
  go_wp2_with (first | (go_at_call 69; refine CA.mono ?_; rintro e w' ⟨rfl, hw⟩; rw [hw]) | fail)
  with_reducible (refine C.mono ?_)
  rintro e w' ⟨b, cc, gs, rfl, I⟩
  go_wp2
  go_ret
  exact ⟨b, cc, gs, rfl, I⟩
set_option maxRecDepth 100000 in
set_option maxHeartbeats 4000000 in
theorem here_tells (h : MAt w B P c s idle) (hd : s.done = false) {N g gc : Nat} {f : Fm} {v : Value} (t : Top w B P s N g gc f v) (hN : N ≤ 1000000) {fu : Fu} {x : In} {fb fo ib io i j : Nat} (q : Ins w B P f fu x fb fo ib io i j) (hF : P.F.length ≤ 2000000) (hc : fu.code.length ≤ 2000000) (hl : x.l.length ≤ 2000000000000) :
    Calls Tryz.prog 33 #[.pointer (some ⟨P.mb, 0, none⟩)] w fun e w' => ∃ y : In, e = .returned (.tuple #[.agg y.arr, .bool true]) ∧ y.abs = x.abs ∧ Fr [] w w' := by
  have F0 : Fr [] w (w.alloc (.cells #[.int .i64 0, .int .i64 0, .int .i64 0, .int .i64 0, .int .i64 0, .slice none 0 0] 80)) := (Fr.refl _ _).alloc _
  have b0 := heap_alloc_new w (.cells #[.int .i64 0, .int .i64 0, .int .i64 0, .int .i64 0, .int .i64 0, .slice none 0 0] 80)
  have H0 := h.fr0 F0
  have T0 := t.fr F0 (by simp)
  have Q0 := q.fr F0 (by simp)
  have CG := goesOn_mk H0
  rw [hd] at CG
  simp only [Bool.not_false] at CG
  have CH := here_mk H0 T0 hN Q0 hF hc
  have HQ : Hid (Ins w B P f fu x fb fo ib io i j) := q
  clear h t q hd
  go_enter Tryz.func33, Tryz.ntmps33
  go_upto_region 1 with fail
  generalize w.alloc (.cells #[.int .i64 0, .int .i64 0, .int .i64 0, .int .i64 0, .int .i64 0, .slice none 0 0] 80) = W at *
  have HB : Hid (W.heap[w.heap.size]? = some (.cells #[.int .i64 0, .int .i64 0, .int .i64 0, .int .i64 0, .int .i64 0, .slice none 0 0] 80 (0, 0))) := b0
  have HF0 : Hid (Fr [] w W) := F0
  clear H0 T0 Q0 b0 F0
  go_wp2_with (first | (go_at_call 58; refine CG.mono ?_; rintro e w' ⟨rfl, hw⟩; rw [hw]) | fail)
  with_reducible (refine CH.mono ?_)
  rintro e X ⟨rfl, f1⟩
  have G : Hid (Fr [] w X) := HF0.out.trans f1
  have ic := (HQ.out.fr G.out (by simp)).ic
  have i0 := ic.c0
  have i1 := ic.c1
  have i2 := ic.c2
  have i3 := ic.c3
  have i4 := ic.c4
  have i5 := ic.c5
  have CI : Calls Tryz.prog 73 #[.agg #[.int .i64 x.op, .int .i64 x.a, .int .i64 x.b, .int .i64 x.c, .int .i64 x.k, .slice x.la x.l.length x.lc]] X _ := copiedIns_any X B x ic.ok hl
  have HB2 : Hid (X.heap[w.heap.size]? = some (.cells #[.int .i64 0, .int .i64 0, .int .i64 0, .int .i64 0, .int .i64 0, .slice none 0 0] 80 (0, 0))) := (f1.block _ (Array.getElem?_eq_some_iff.1 HB.out).1 (by simp)).trans HB.out
  clear CH CG f1 ic
  go_wp2_with fail
  with_reducible (refine CI.mono ?_)
  rintro e Y ⟨y, rfl, hy, _, f2⟩
  have b3 := (f2.block _ (Array.getElem?_eq_some_iff.1 HB2.out).1 (by simp)).trans HB2.out
  have d0 : Y.cell? ⟨w.heap.size, 0, none⟩ = some _ := at_cells b3 0 rfl
  have d1 : Y.cell? ⟨w.heap.size, 1, none⟩ = some _ := at_cells b3 1 rfl
  have d2 : Y.cell? ⟨w.heap.size, 2, none⟩ = some _ := at_cells b3 2 rfl
  have d3 : Y.cell? ⟨w.heap.size, 3, none⟩ = some _ := at_cells b3 3 rfl
  have d4 : Y.cell? ⟨w.heap.size, 4, none⟩ = some _ := at_cells b3 4 rfl
  have d5 : Y.cell? ⟨w.heap.size, 5, none⟩ = some _ := at_cells b3 5 rfl
  have z0 : ∀ i, Y.frozen? ⟨w.heap.size, i, none⟩ = false := fun i => by simp [World.frozen?, b3]
  have HB3 : Hid (Y.heap[w.heap.size]? = some (.cells #[.int .i64 0, .int .i64 0, .int .i64 0, .int .i64 0, .int .i64 0, .slice none 0 0] 80 (0, 0))) := b3
  have HY : Hid (y.abs = x.abs) := hy
  have G2 : Hid (Fr [] w Y) := G.out.trans f2
  clear CI i0 i1 i2 i3 i4 i5 f2 b3 hy
  unfold In.arr
  go_wp2
  have hres := set_cells 5 (.slice y.la y.l.length y.lc) (set_cells 4 (.int .i64 y.k) (set_cells 3 (.int .i64 y.c) (set_cells 2 (.int .i64 y.b) (set_cells 1 (.int .i64 y.a) (set_cells 0 (.int .i64 y.op) HB3.out)))))
  have r0 := at_cells hres 0 rfl
  have r1 := at_cells hres 1 rfl
  have r2 := at_cells hres 2 rfl
  have r3 := at_cells hres 3 rfl
  have r4 := at_cells hres 4 rfl
  have r5 := at_cells hres 5 rfl
  refine bodyPost_ret (v := .tuple #[.agg #[.int .i64 y.op, .int .i64 y.a, .int .i64 y.b, .int .i64 y.c, .int .i64 y.k, .slice y.la y.l.length y.lc], .bool true]) (by simp [results, Tryz.results33, go_sem, r0, r1, r2, r3, r4, r5]) rfl ⟨y, rfl, HY.out, ?_⟩
  exact (((((G2.out.setCell (.inr (by simp)) _).setCell (.inr (by simp)) _).setCell (.inr (by simp)) _).setCell (.inr (by simp)) _).setCell (.inr (by simp)) _).setCell (.inr (by simp)) _
end
end Go.Proofs.YtkjkpkmmojchiaaGreatDoor

namespace Go.Proofs.YtkjkpkmmojchiaaGreatDoor
open Go.RowKit
set_option linter.unusedVariables false
set_option linter.unusedSimpArgs false

def exAF : AF := ⟨0, 1, [⟨1, 0, 0, 0, 7, []⟩, ⟨16, 0, 0, 0, 0, []⟩, ⟨24, 0, 0, 0, 0, []⟩]⟩
def exC : Cf := ⟨[exAF], 0, 0, [], [], cap0 0, cfF 0, cfD 1⟩
def exS0 : St := St.start 0 1
def exS1 : St := exS0.top ((newF 0 1 (-1)).wr 0 0 7)
def exS2 : St := { exS1 with out := exS1.out ++ [7] }.top ((newF 0 1 (-1)).wr 0 0 7).go
def exS3 : St := (exS2.pop 0).ends 0 0 7 0
theorem ex_fun {w : World} {B : Nat} {P : MP} {s : St} (h : MR w B P exC s) : ∃ fu, P.F[0]? = some fu ∧ fu.rs = 1 ∧ fu.code.length = 3 ∧ fu.code.map In.abs = exAF.code ∧ P.F.length = 1 := by
  have e := h.cabs
  have hl : P.F.length = 1 := by have := congrArg List.length e; simpa [exC] using this
  cases hF : P.F with
  | nil => rw [hF] at hl; simp at hl
  | cons fu r =>
    rw [hF] at e
    simp only [List.map_cons, exC, List.cons.injEq, List.map_eq_nil_iff] at e
    obtain ⟨e1, rfl⟩ := e
    unfold Fu.abs exAF at e1
    injection e1 with e2 e3 e4
    exact ⟨fu, rfl, e3, by have := congrArg List.length e4; simpa using this, e4, rfl⟩
theorem ex_ins {L : List In} (h : L.map In.abs = exAF.code) {j : Nat} {a : AI} (ha : exAF.code[j]? = some a) : ∃ x, L[j]? = some x ∧ x.abs = a := by
  rw [← h, List.getElem?_map] at ha
  cases hx : L[j]? with
  | none => rw [hx] at ha; simp at ha
  | some x => rw [hx] at ha; simp at ha; exact ⟨x, rfl, ha⟩
theorem cf102 (a : Array Value) (w' : World) : (callFunc 102 a).run Tryz.prog w' = .ok (.enter 102 a) w' := by kernel_rfl
theorem cf110 (a : Array Value) (w' : World) : (callFunc 110 a).run Tryz.prog w' = .ok (.enter 110 a) w' := by kernel_rfl
section
variable {w : World} {B : Nat} {P : MP}
theorem ex_step1 (h : MAt w B P exC exS0 0) : Calls Tryz.prog 17 #[.pointer (some ⟨P.mb, 0, none⟩)] w (DoP w B P exC exS1 1 (.returned (.int .i64 0))) := by
  refine next_ok h rfl (fun w' f' => ?_)
  have h' := h.fr0 f'
  obtain ⟨g, gc, v, t⟩ := h'.r.top (N := 0) (f := newF 0 1 (-1)) rfl rfl
  obtain ⟨fu, hfu, hrs, hcl, hcd, hFl⟩ := ex_fun h'.r
  obtain ⟨x, hx, hxa⟩ := ex_ins hcd (j := 0) rfl
  obtain ⟨fb, fo, ib, io, q⟩ := h'.r.ins (f := newF 0 1 (-1)) (i := 0) (j := 0) rfl rfl hfu hx
  have xo : x.op = (1 : Nat) := congrArg AI.op hxa
  have xa : x.a = (0 : Nat) := congrArg AI.a hxa
  have xk : x.k = 7 := congrArg AI.k hxa
  have r := do_ok h' t (by omega) q (by omega) (by omega) (by omega) (by omega) xo (by omega) (n := 87) rfl cf87 (s' := exS1) (fun w'' m t2 q2 hsz => by
    have := doNum_mk m t2 q2 xa (by simp [newF]) (by simp [newF]) (by omega)
    rw [xk] at this
    exact this)
  exact r
theorem ex_step2 (h : MAt w B P exC exS1 1) (hB : B ≤ w.heap.size) : Calls Tryz.prog 17 #[.pointer (some ⟨P.mb, 0, none⟩)] w (DoP w B P exC exS2 2 (.returned (.int .i64 0))) := by
  refine next_ok h rfl (fun w' f' => ?_)
  have h' := h.fr0 f'
  obtain ⟨g, gc, v, t⟩ := h'.r.top (N := 0) (f := (newF 0 1 (-1)).wr 0 0 7) rfl rfl
  obtain ⟨fu, hfu, hrs, hcl, hcd, hFl⟩ := ex_fun h'.r
  obtain ⟨x, hx, hxa⟩ := ex_ins hcd (j := 1) rfl
  obtain ⟨fb, fo, ib, io, q⟩ := h'.r.ins (f := (newF 0 1 (-1)).wr 0 0 7) (i := 0) (j := 1) rfl rfl hfu hx
  have xo : x.op = (16 : Nat) := congrArg AI.op hxa
  have xa : x.a = (0 : Nat) := congrArg AI.a hxa
  exact do_ok h' t (by omega) q (by omega) (by omega) (by omega) (by omega) xo (by omega) (n := 102) rfl cf102 (s' := exS2) (fun w'' m t2 q2 hsz => (doOut_int m t2 q2 xa rfl (by simp [newF, Fm.wr]) (by omega) (Nat.le_trans (Nat.le_trans hB f'.size) hsz) (by simp [exS1, exS0, St.start, St.top])).mono fun e w3 hq => hq.p)
theorem ex_step3 (h : MAt w B P exC exS2 2) : Calls Tryz.prog 17 #[.pointer (some ⟨P.mb, 0, none⟩)] w (DoP w B P exC exS3 3 (.returned (.int .i64 1))) := by
  refine next_thr h rfl (fun w' f' => ?_)
  have h' := h.fr0 f'
  obtain ⟨g, gc, v, t⟩ := h'.r.top (N := 0) (f := ((newF 0 1 (-1)).wr 0 0 7).go) rfl rfl
  obtain ⟨fu, hfu, hrs, hcl, hcd, hFl⟩ := ex_fun h'.r
  obtain ⟨x, hx, hxa⟩ := ex_ins hcd (j := 2) rfl
  obtain ⟨fb, fo, ib, io, q⟩ := h'.r.ins (f := ((newF 0 1 (-1)).wr 0 0 7).go) (i := 0) (j := 2) rfl rfl hfu hx
  have xo : x.op = (24 : Nat) := congrArg AI.op hxa
  have xa : x.a = (0 : Nat) := congrArg AI.a hxa
  exact do_thr h' t (by omega) q (by omega) (by omega) (by omega) (by omega) xo (by omega) (n := 110) rfl cf110 (s' := exS2.pop 0) (fun w'' m t2 q2 hsz => by
    have := doRet_first m t2 q2 xa (k := 0) (m := 7) rfl (by simp [newF, Fm.wr, Fm.go])
    simpa using this)
end
end Go.Proofs.YtkjkpkmmojchiaaGreatDoor
