/-
  Texts of the proof, in their order: MaO, MaQ, MaR, MaS, MaT; conditions: as each theorem says.
-/
import Derived.Test.YtkjkpkmmojchiaaGreatDoorMgAC
import Derived.RegionDies
import Derived.Recover
namespace Go.Proofs.YtkjkpkmmojchiaaGreatDoor
open Go.RowKit
set_option linter.unusedVariables false
set_option linter.unusedSimpArgs false

section
variable {w : World} {B : Nat} {P : MP} {c : Cf} {s : St} {idle : Int}
theorem MAt.putOut (h : MAt w B P c s idle) {w3 : World} {v3 : Value} (f : Fr P.ov.ownBlock.toList w w3) {K : List Int} (ho : w3.ownsRow B 2 1 v3 K.length (K.map (Value.int .i64))) (hk : ∀ k, v3.ownBlock = some k → P.ov.ownBlock = some k ∨ w.heap.size ≤ k) :
    MAt (w3.setCell ⟨P.mb, 40, none⟩ v3) B { P with ov := v3 } c { s with out := K } idle ∧ Fr (footM P) w (w3.setCell ⟨P.mb, 40, none⟩ v3) ∧ (∀ k ∈ footM { P with ov := v3 }, k ∈ footM P ∨ w.heap.size ≤ k) := by
  have hov : ∀ k, P.ov.ownBlock = some k → k ∈ footM P := fun k hk => List.mem_cons_of_mem _ (mem_rfoot.2 (.inr (.inr (.inr (.inr (.inr (.inr hk)))))))
  have hB : ∀ k ∈ P.ov.ownBlock.toList, B ≤ k := fun k hk => by simp at hk; exact (h.r.out.lt k hk).1
  have hmo : P.mb ∉ P.ov.ownBlock.toList := fun hm => h.ne (mem_rfoot.2 (.inr (.inr (.inr (.inr (.inr (.inr (by simpa using hm))))))))
  have blk3 : w3.heap[P.mb]? = some (.cells (mCells P c s idle) 77 (0, 0)) := (f.block _ (Array.getElem?_eq_some_iff.1 h.blk).1 hmo).trans h.blk
  have f2 : Fr [P.mb] w3 (w3.setCell ⟨P.mb, 40, none⟩ v3) := (Fr.refl _ _).setCell (.inl (by simp)) _
  have oth : ∀ {k cs} {e : TypeId} {z : Nat × Nat}, w.heap[k]? = some (.cells cs e z) → e ≠ 77 → e ≠ 2 → k ∉ P.mb :: P.ov.ownBlock.toList := by
    intro k cs e z hk e1 e2 hm
    rcases List.mem_cons.1 hm with rfl | hm
    · rw [h.blk] at hk
      injection hk with hk
      injection hk with _ hk _
      exact e1 hk.symm
    · simp at hm
      exact own_ne h.r.out hk e2 hm
  have othR : ∀ {e : TypeId} {sz n : Nat} {u : Value} {xs : List Value}, w.ownsRow B e sz u n xs → e ≠ 77 → e ≠ 2 → ∀ k, u.ownBlock = some k → k ∉ P.mb :: P.ov.ownBlock.toList := by
    intro e sz n u xs ho e1 e2 k hk
    rcases ho.2 with ⟨rfl, _⟩ | ⟨g', cap, cur', rfl, _, hgg, _⟩
    · simp [Value.ownBlock] at hk
    · simp [Value.ownBlock] at hk
      subst hk
      exact oth hgg e1 e2
  have F : Fr (P.mb :: P.ov.ownBlock.toList) w (w3.setCell ⟨P.mb, 40, none⟩ v3) := (f.sub (fun k hk => .inl (by simp [hk]))).setCell (.inl (by simp)) _
  have hBB : ∀ k ∈ P.mb :: P.ov.ownBlock.toList, B ≤ k := fun k hk => by
    rcases List.mem_cons.1 hk with rfl | hk
    · exact h.base
    · exact hB k hk
  refine ⟨⟨?_, h.base, ?_⟩, F.sub (fun k hk => .inl ?_), ?_⟩
  · exact set_cells 40 v3 blk3
  · refine ⟨?_, h.r.abs, h.r.lens, own_fr h.r.row F (othR h.r.row (by decide) (by decide)), fun i g v hi hv => own_fr (h.r.rg i g v hi hv) F (othR (h.r.rg i g v hi hv) (by decide) (by decide)), h.r.sep, h.r.sepT, ?_, h.r.code.fr F hBB, h.r.cabs, h.r.img.fr F hBB, h.r.inp.fr F hBB⟩
    · refine h.r.rep.keeps F (oth h.r.rep.hb (by decide) (by decide)) (othR h.r.rep.row (by decide) (by decide)) (fun x hx => ⟨?_, oth (h.r.rep.th x hx).row (by decide) (by decide)⟩)
      have hb := (h.r.rep.th x hx).own
      unfold Thing.body at hb
      split at hb
      · exact oth hb (by decide) (by decide)
      · exact oth hb (by decide) (by decide)
    · exact ownsRow_setCell_other ho (own_ne ho blk3 (by decide)) _
  · rcases List.mem_cons.1 hk with rfl | hk
    · simp [footM]
    · exact hov k (by simpa using hk)
  · intro k hk'
    rcases List.mem_cons.1 hk' with rfl | hk'
    · exact .inl (by simp [footM])
    · rcases mem_rfoot.1 hk' with h1 | h1 | h1 | h1 | h1 | h1 | h1
      · exact .inl (List.mem_cons_of_mem _ (mem_rfoot.2 (.inl h1)))
      · exact .inl (List.mem_cons_of_mem _ (mem_rfoot.2 (.inr (.inl h1))))
      · exact .inl (List.mem_cons_of_mem _ (mem_rfoot.2 (.inr (.inr (.inl h1)))))
      · exact .inl (List.mem_cons_of_mem _ (mem_rfoot.2 (.inr (.inr (.inr (.inl h1))))))
      · exact .inl (List.mem_cons_of_mem _ (mem_rfoot.2 (.inr (.inr (.inr (.inr (.inl h1)))))))
      · exact .inl (List.mem_cons_of_mem _ (mem_rfoot.2 (.inr (.inr (.inr (.inr (.inr (.inl h1))))))))
      · rcases hk k h1 with h2 | h2
        · exact .inl (hov k h2)
        · exact .inr h2
/-- What comes of a call that leaves the machine's calls where they lie. -/
def DoQ (w : World) (B : Nat) (P : MP) (c : Cf) (s : St) (idle : Int) (e0 e : Ending) (w' : World) : Prop := e = e0 ∧ ∃ P', MAt w' B P' c s idle ∧ P'.mb = P.mb ∧ P'.F = P.F ∧ P'.fa = P.fa ∧ P'.fc = P.fc ∧ P'.fv = P.fv ∧ P'.fs = P.fs ∧ Fr (footM P) w w' ∧ (∀ k ∈ footM P', k ∈ footM P ∨ w.heap.size ≤ k)
theorem Top.again {w1 : World} {P' : MP} {s1 : St} {idle1 : Int} (h1 : MAt w1 B P' c s1 idle1) (hv : P'.fv = P.fv) (hs : P'.fs = P.fs) (hr : s1.fr = s.fr) {N g gc : Nat} {f : Fm} {v : Value} (t : Top w B P s N g gc f v) : Top w1 B P' s1 N g gc f v := by
  obtain ⟨g', gc', v', t'⟩ := h1.r.top (N := N) (f := f) (by rw [hr]; exact t.len) (by rw [hr]; exact t.at_)
  have e1 := t'.fvs
  rw [hv, t.fvs] at e1
  cases e1
  have e2 := t'.vs
  rw [hs, t.vs] at e2
  cases e2
  exact t'
/-- What Out does. -/
def outS (s : St) (k m : Int) : St := if k = 0 then { s with out := s.out ++ [m] } else s
theorem one_new2 (W : World) (z : Int) : ∀ j u, [Value.int .i64 z][j]? = some u → (W.alloc (.cells #[.int .i64 z] 2)).cell? ((⟨W.heap.size, 0, none⟩ : Addr).add j) = some u := by
  intro j u hu
  have hadd : (⟨W.heap.size, 0, none⟩ : Addr).add j = ⟨W.heap.size, j, none⟩ := by unfold Addr.add; split <;> simp_all
  rw [hadd]
  exact at_cells (heap_alloc_new W _) j (by simpa using hu)
theorem info2x : (Tryz.prog.info? 2).map (fun i => (i.zero, i.size, i.bytes)) = some (some (.int .i64 0), 1, 8) := ci54
set_option maxRecDepth 100000 in
set_option maxHeartbeats 4000000 in
theorem Out_mk (h : MAt w B P c s idle) (k m : Int) (hB : B ≤ w.heap.size) (hn : s.out.length ≤ 1000000000) :
    Calls Tryz.prog 29 #[.pointer (some ⟨P.mb, 0, none⟩), .agg #[.int .i64 k, .int .i64 m]] w (DoQ w B P c (outS s k m) idle (.returned (.int .i64 (if k = 0 then 0 else 6)))) := by
  obtain ⟨i2, hi, hz, hz1, hby⟩ := info_parts info2x
  have F0 : Fr [] w (w.alloc (.cells #[.int .i64 k, .int .i64 m] 33)) := (Fr.refl _ _).alloc _
  have b0 := heap_alloc_new w (.cells #[.int .i64 k, .int .i64 m] 33)
  have H0 := h.fr0 F0
  have hsz : (w.alloc (.cells #[.int .i64 k, .int .i64 m] 33)).heap.size = w.heap.size + 1 := by simp
  go_enter Tryz.func29, Tryz.ntmps29
  go_upto_region 1 with fail
  generalize w.alloc (.cells #[.int .i64 k, .int .i64 m] 33) = W at *
  have C := alive_mk H0
  have c0 : W.cell? ⟨w.heap.size, 0, none⟩ = some (.int .i64 k) := at_cells b0 0 rfl
  have c1 : W.cell? ⟨w.heap.size, 1, none⟩ = some (.int .i64 m) := at_cells b0 1 rfl
  have c40 : W.cell? ⟨P.mb, 40, none⟩ = some P.ov := at_cells H0.blk 40 rfl
  have HH : Hid (MAt W B P c s idle) := H0
  have HF : Hid (Fr [] w W) := F0
  have HS : Hid (W.heap.size = w.heap.size + 1) := hsz
  clear h F0 H0 b0 hsz
  by_cases hk : k = 0
  · subst hk
    have HE : Hid (outS s 0 m = { s with out := s.out ++ [m] }) := rfl
    obtain ⟨oa, oc, eo, _⟩ := own_slice HH.out.r.out
    rw [eo] at c40
    have HEO : Hid (P.ov = .slice oa s.out.length oc) := eo
    have HROW : W.ownsRow B 2 1 (.slice oa s.out.length oc) s.out.length (s.out.map (Value.int .i64)) := by rw [← eo]; exact HH.out.r.out
    have hBW : B ≤ W.heap.size := by have := HS.out; omega
    clear eo
    go_wp2_with (go_at_call 69; refine C.mono ?_; rintro e w' ⟨rfl, hw⟩; rw [hw])
    have HRO : ∀ w', Fr [] W w' → w'.ownsRow B 2 1 (.slice oa s.out.length oc) s.out.length (s.out.map (Value.int .i64)) := fun w' f' => own_fr HROW f' (by simp)
    have KF : ∀ W' w3, Fr [] W W' → W'.grownBy w3 (Value.slice oa s.out.length oc).ownBlock → Fr P.ov.ownBlock.toList W w3 ∧ w3.cell? ⟨P.mb, 40, none⟩ = some (.slice oa s.out.length oc) ∧ w3.frozen? ⟨P.mb, 40, none⟩ = false := by
      intro W' w3 fW hg
      rw [← HEO.out] at hg ⊢
      have f3 : Fr P.ov.ownBlock.toList W w3 := (fW.sub (by simp)).trans (Fr.ofGrown hg)
      have hne : P.mb ∉ P.ov.ownBlock.toList := fun hm => HH.out.ne (mem_rfoot.2 (.inr (.inr (.inr (.inr (.inr (.inr (by simpa using hm))))))))
      have hb := (f3.block _ (Array.getElem?_eq_some_iff.1 HH.out.blk).1 hne).trans HH.out.blk
      exact ⟨f3, at_cells hb 40 rfl, by simp [World.frozen?, hb]⟩
    have c40a : (W.alloc (.cells #[.int .i64 m] 2)).cell? ⟨P.mb, 40, none⟩ = some (.slice oa s.out.length oc) := ((Fr.refl [] W).alloc _).cell1 c40 (by simp)
    go_region_law
      (refine step_append_src rfl (.tmp 17) (.tmp 20) 25 rfl B 2 i2 _ 1 8 cu54 hi hz hz1 hby rfl (by decide) (.slice oa s.out.length oc) s.out.length (s.out.map (Value.int .i64)) rfl (HRO _ (by first | exact ((Fr.refl _ _).drew).alloc _ | exact ((Fr.refl _ _).alloc _).drew | exact (Fr.refl _ _).alloc _)) (some ⟨W.heap.size, 0, none⟩) 1 1 [.int .i64 m] rfl rfl (by simp) (fun ad had => by cases had; first | exact one_new2 W m | exact one_new2 W.drew m) (by simp [Value.oneCell']) (by unfold maxLen; omega) (by omega) (Nat.le_trans hBW (Fr.size (S := []) (by first | exact ((Fr.refl _ _).drew).alloc _ | exact ((Fr.refl _ _).alloc _).drew | exact (Fr.refl _ _).alloc _))) ?_; intro v3 w3 ho3 hg3 hk3; have K3 := KF _ _ (by first | exact ((Fr.refl _ _).drew).alloc _ | exact ((Fr.refl _ _).alloc _).drew | exact (Fr.refl _ _).alloc _) hg3; have F3 := K3.1; have c40' := K3.2.1; have z40 := K3.2.2; obtain ⟨a3, c3, rfl, hv3⟩ := own_slice ho3)
    all_goals
      have HO3 : Hid (w3.ownsRow B 2 1 (.slice a3 (s.out.length + 1) c3) (s.out ++ [m]).length ((s.out ++ [m]).map (Value.int .i64))) := by unfold Hid; simpa using ho3
      have HK3 : Hid (∀ k, (Value.slice a3 (s.out.length + 1) c3).ownBlock = some k → P.ov.ownBlock = some k ∨ W.heap.size ≤ k) := fun k hk => by
        rcases hk3 k hk with h1 | h1
        · exact .inl (by rw [HEO.out]; exact h1)
        · right
          exact Nat.le_trans (Fr.size (S := []) (by first | exact ((Fr.refl _ _).drew).alloc _ | exact ((Fr.refl _ _).alloc _).drew | exact (Fr.refl _ _).alloc _)) h1
      have HF3 : Hid (Fr P.ov.ownBlock.toList W w3) := F3
      clear ho3 hk3 hg3 K3 F3 KF HRO HROW c40 c0 c1 C hi hz hz1 hby
      go_wp2
      go_ret
      have h4 := HH.out.putOut HF3.out HO3.out HK3.out
      rw [HE.out]
      refine ⟨rfl, { P with ov := .slice a3 (s.out.length + 1) c3 }, h4.1, rfl, rfl, rfl, rfl, rfl, rfl, (HF.out.sub (by simp)).trans h4.2.1, fun k hk => ?_⟩
      rcases h4.2.2 k hk with h5 | h5
      · exact .inl h5
      · exact .inr (by have := HS.out; omega)
  · have hk' : (k != 0) = true := by simpa using hk
    have HE : Hid (outS s k m = s) := if_neg hk
    have HE2 : Hid ((if k = 0 then (0 : Int) else 6) = 6) := if_neg hk
    go_wp2_with (go_at_call 69; refine C.mono ?_; rintro e w' ⟨rfl, hw⟩; rw [hw])
    go_ret
    exact ⟨by first | rfl | (rw [HE2.out]; rfl), P, by rw [HE.out]; exact HH.out, rfl, rfl, rfl, rfl, rfl, rfl, HF.out.sub (by simp), fun k hk => .inl hk⟩
end
end Go.Proofs.YtkjkpkmmojchiaaGreatDoor

namespace Go.Proofs.YtkjkpkmmojchiaaGreatDoor
open Go.RowKit
set_option linter.unusedVariables false
set_option linter.unusedSimpArgs false

theorem Fr.next {S S' : List Nat} {w w1 w2 : World} (h1 : Fr S w w1) (h2 : Fr S' w1 w2) (hS : ∀ k ∈ S', k ∈ S ∨ w.heap.size ≤ k) : Fr S w w2 :=
  ⟨h2.os.trans h1.os, h2.tape.trans h1.tape, h2.output.trans h1.output, Nat.le_trans h1.size h2.size, fun k hk hn => (h2.block k (Nat.lt_of_lt_of_le hk h1.size) (fun hm => by rcases hS k hm with h | h; exact hn h; omega)).trans (h1.block k hk hn)⟩
section
variable {w : World} {B : Nat} {P : MP} {c : Cf} {s : St} {idle : Int}
set_option maxRecDepth 100000 in
set_option maxHeartbeats 1000000 in
theorem done_mk (h : MAt w B P c s idle) {N g gc : Nat} {f : Fm} {v : Value} (t : Top w B P s N g gc f v) (h0 : 0 ≤ f.pc) (h1 : f.pc ≤ 2000000) :
    Calls Tryz.prog 138 #[.pointer (some ⟨g, N * 4, none⟩), .int .i64 0] w (DoQ w B P c (s.top f.go) idle okE) := by
  have C := trapped_no w
  have c1 := t.c1
  have z1 := t.fz (N * 4 + 1)
  have M := h.moved t (f' := f.go) rfl rfl w (Fr.refl _ _) (h.r.rg N f v t.at_ t.vs)
  have HM : Hid (MAt (w.setCell ⟨g, N * 4 + 1, none⟩ (.int .i64 (f.pc + 1))) B P c (s.top f.go) idle ∧ Fr (footM P) w (w.setCell ⟨g, N * 4 + 1, none⟩ (.int .i64 (f.pc + 1)))) := M
  clear M h t
  go_enter Tryz.func138, Tryz.ntmps138
  go_wp2_with (go_at_call 146; refine C.mono ?_; rintro e w' ⟨rfl, hw⟩; rw [hw])
  go_end0
  exact ⟨rfl, P, HM.out.1, rfl, rfl, rfl, rfl, rfl, rfl, HM.out.2, fun k hk => .inl hk⟩
set_option maxRecDepth 100000 in
theorem done_trap (w : World) (p : Value) (tr : Int) (ht : tr ≠ 0) : Calls Tryz.prog 138 #[p, .int .i64 tr] w fun e w' => e = thrE 1 0 0 tr ∧ w' = w := by
  have C := trapped_yes w tr ht
  unfold thrE at *
  go_enter Tryz.func138, Tryz.ntmps138
  go_wp2_with (go_at_call 146; refine C.mono ?_; rintro e w' ⟨rfl, hw⟩; rw [hw])
  exact ⟨rfl, rfl, rfl⟩
theorem DoQ.p {w' : World} {e0 e : Ending} (h : DoQ w B P c s idle e0 e w') : DoP w B P c s idle e0 e w' := by
  obtain ⟨h0, P', h1, h2, h3, h4, h5, _, _, h6, h7⟩ := h
  exact ⟨h0, P', h1, h2, h3, h4, h5, h6, h7⟩
set_option maxRecDepth 100000 in
set_option maxHeartbeats 4000000 in
theorem doOut_int (h : MAt w B P c s idle) {N g gc : Nat} {f : Fm} {v : Value} (t : Top w B P s N g gc f v) {fu : Fu} {x : In} {fb fo ib io i j : Nat} (q : Ins w B P f fu x fb fo ib io i j) {a : Nat} (hx : x.a = a) {m : Int} (ha : f.regs[a]? = some (0, m)) (hr : f.regs.length ≤ 1000) (hj : j ≤ 2000000) (hB : B ≤ w.heap.size) (hn : s.out.length ≤ 1000000000) :
    Calls Tryz.prog 102 #[.pointer (some ⟨P.mb, 0, none⟩), .pointer (some ⟨g, N * 4, none⟩), .pointer (some ⟨ib, io + j * 6, none⟩)] w (DoQ w B P c ({ s with out := s.out ++ [m] }.top f.go) idle okE) := by
  obtain ⟨rb, rc, ev, k0, k1, hz, hrB, hne⟩ := h.r.reg t ha
  have haI : (a : Int) < f.regs.length := by have := (List.getElem?_eq_some_iff.1 ha).1; omega
  have hrI : (f.regs.length : Int) ≤ 1000 := by omega
  have CO : ∀ w', Fr [] w w' → Calls Tryz.prog 29 #[.pointer (some ⟨P.mb, 0, none⟩), .agg #[.int .i64 0, .int .i64 m]] w' (fun e w1 => e = .returned (.int .i64 0) ∧ Hid (DoQ w B P c { s with out := s.out ++ [m] } idle e e w1)) := fun w' f' => (Out_mk (h.fr0 f') 0 m (Nat.le_trans hB f'.size) hn).mono fun e w1 ⟨e1, P', m1, m2, m3, m4, m5, m6, m7, m8, m9⟩ => ⟨e1, rfl, P', m1, m2, m3, m4, m5, m6, m7, (f'.sub (by simp)).trans m8, fun k hk => (m9 k hk).imp id (fun h => Nat.le_trans f'.size h)⟩
  have CD : ∀ w1, DoQ w B P c { s with out := s.out ++ [m] } idle (.returned (.int .i64 0)) (.returned (.int .i64 0)) w1 → Calls Tryz.prog 138 #[.pointer (some ⟨g, N * 4, none⟩), .int .i64 0] w1 (fun e w2 => e = okE ∧ Hid (DoQ w B P c ({ s with out := s.out ++ [m] }.top f.go) idle okE okE w2)) := by
    rintro w1 ⟨_, P', m1, m2, m3, m4, m5, m6, m7, m8, m9⟩
    refine (done_mk m1 (Top.again (s := s) m1 m6 m7 rfl t) (by rw [q.pc]; omega) (by rw [q.pc]; omega)).mono ?_
    rintro e w2 ⟨e1, P2, n1, n2, n3, n4, n5, n6, n7, n8, n9⟩
    refine ⟨e1, rfl, P2, n1, n2.trans m2, n3.trans m3, n4.trans m4, n5.trans m5, n6.trans m6, n7.trans m7, m8.next n8 m9, fun k hk => ?_⟩
    rcases n9 k hk with h1 | h1
    · exact m9 k h1
    · exact .inr (Nat.le_trans m8.size h1)
  have c2 : w.cell? ⟨g, N * 4 + 2, none⟩ = some (.slice (some ⟨rb, 0, none⟩) f.regs.length rc) := by rw [← ev]; exact t.c2
  have c1 : w.cell? ⟨ib, io + j * 6 + 1, none⟩ = some (.int .i64 (a : Int)) := by rw [← hx]; exact q.ic.c1
  simp only at k0 k1
  have RD : Fr [] w w.drew := (Fr.refl _ _).drew
  clear h t q hz
  go_enter Tryz.func102, Tryz.ntmps102
  go_wp2_with fail
  go_region_with (first
    | (go_at_call 29; with_reducible (refine (CO _ RD).mono ?_); rintro e w1 ⟨rfl, D1⟩)
    | (go_at_call 138; with_reducible (refine (CD _ D1.out).mono ?_); rintro e w2 ⟨rfl, D2⟩))
  all_goals
    clear CO CD
    go_wp2
    go_end0
    exact D2.out
end
end Go.Proofs.YtkjkpkmmojchiaaGreatDoor

namespace Go.Proofs.YtkjkpkmmojchiaaGreatDoor
open Go.RowKit
set_option linter.unusedVariables false
set_option linter.unusedSimpArgs false

section
variable {w : World} {B : Nat} {P : MP} {c : Cf} {s : St} {idle : Int}
theorem MAt.setIdle (h : MAt w B P c s idle) (z : Int) : MAt (w.setCell ⟨P.mb, 42, none⟩ (.int .i64 z)) B P c s z := h.setM 42 _ rfl rfl rfl rfl rfl rfl rfl
theorem mA_way (P : MP) (c : Cf) (s : St) (idle : Int) (o : Nat) (ho : o < 29) : (mCells P c s idle)[1 + o]? = waysA[o]? := by
  have : ∀ o, o < 29 → (mCells P c s idle)[1 + o]? = waysA[o]? := by
    intro o ho
    unfold mCells mA waysA
    match o, ho with
    | 0, _ | 1, _ | 2, _ | 3, _ | 4, _ | 5, _ | 6, _ | 7, _ | 8, _ | 9, _ | 10, _ | 11, _ | 12, _ | 13, _ | 14, _ | 15, _ | 16, _ | 17, _ | 18, _ | 19, _ | 20, _ | 21, _ | 22, _ | 23, _ | 24, _ | 25, _ | 26, _ | 27, _ | 28, _ => rfl
    | q + 29, hq => exact absurd hq (by omega)
  exact this o ho
set_option maxRecDepth 100000 in
set_option maxHeartbeats 4000000 in
theorem do_ok (h : MAt w B P c s idle) {N g gc : Nat} {f : Fm} {v : Value} (t : Top w B P s N g gc f v) (hN : N ≤ 1000000) {fu : Fu} {x : In} {fb fo ib io i j : Nat} (q : Ins w B P f fu x fb fo ib io i j) (hF : P.F.length ≤ 2000000) (hc : fu.code.length ≤ 2000000) (h0 : 0 ≤ idle) (h1 : idle < 1000000)
    {o n : Nat} (hx : x.op = o) (ho : o < 29) (hw : waysA[o]? = some (.func (.func n) #[] #[])) (hcf : ∀ (a : Array Value) (w' : World), (callFunc n a).run Tryz.prog w' = .ok (.enter n a) w') {s' : St}
    (C : ∀ w', MAt w' B P c s (idle + 1) → Top w' B P s N g gc f v → Ins w' B P f fu x fb fo ib io i j → w.heap.size ≤ w'.heap.size → Calls Tryz.prog n #[.pointer (some ⟨P.mb, 0, none⟩), .pointer (some ⟨g, N * 4, none⟩), .pointer (some ⟨ib, io + j * 6, none⟩)] w' (DoP w' B P c s' (idle + 1) okE)) :
    Calls Tryz.prog 60 #[.pointer (some ⟨P.mb, 0, none⟩)] w (DoP w B P c s' (idle + 1) okE) := by
  have c42 : w.cell? ⟨P.mb, 42, none⟩ = some (.int .i64 idle) := at_cells h.blk 42 rfl
  have z42 : w.frozen? ⟨P.mb, 42, none⟩ = false := by simp [World.frozen?, h.blk]
  have M1 := h.setIdle (idle + 1)
  have f1 : Fr [P.mb] w (w.setCell ⟨P.mb, 42, none⟩ (.int .i64 (idle + 1))) := (Fr.refl _ _).setCell (.inl (by simp)) _
  have hng : g ∉ [P.mb] := by
    simp
    intro e
    exact h.ne (mem_rfoot.2 (.inr (.inr (.inr (.inr (.inl (by rw [t.fvs, e]; rfl)))))))
  have T1 := t.fr f1 hng
  have Q1 := q.fr f1 (by simp; exact h.base)
  have hd : (idle == 1000000) = false := by simp; omega
  have HF1 : Hid (Fr [P.mb] w (w.setCell ⟨P.mb, 42, none⟩ (.int .i64 (idle + 1)))) := f1
  go_enter Tryz.func60, Tryz.ntmps60
  go_upto_region 3 with fail
  generalize w.setCell ⟨P.mb, 42, none⟩ (.int .i64 (idle + 1)) = W at *
  have CL := last_mk M1 T1 hN
  have HM : Hid (MAt W B P c s (idle + 1)) := M1
  have HT : Hid (Top W B P s N g gc f v) := T1
  have HQ : Hid (Ins W B P f fu x fb fo ib io i j) := Q1
  clear h t q M1 T1 Q1 f1 c42 z42 hng hd
  go_wp2_with fail
  with_reducible (refine CL.mono ?_)
  rintro e W1 ⟨rfl, g1⟩
  have M1 := HM.out.fr0 g1
  have T1 := HT.out.fr g1 (by simp)
  have Q1 := HQ.out.fr g1 (by simp)
  have CH := here_mk M1 T1 hN Q1 hF hc
  have HG1 : Hid (Fr [] W W1) := g1
  clear CL g1 M1 T1 Q1
  go_wp2_with fail
  with_reducible (refine CH.mono ?_)
  rintro e W2 ⟨rfl, g2⟩
  have G2 : Hid (Fr [] W W2) := HG1.out.trans g2
  have M2 : Hid (MAt W2 B P c s (idle + 1)) := HM.out.fr0 G2.out
  have D0 : W2.cell? ⟨ib, io + j * 6, none⟩ = some (.int .i64 (o : Int)) := by rw [← hx]; exact (HQ.out.fr G2.out (by simp)).ic.c0
  have DW : W2.cell? ⟨P.mb, 1 + o, none⟩ = some (.func (.func n) #[] #[]) := at_cells M2.out.blk (1 + o) (by rw [mA_way _ _ _ _ _ ho]; exact hw)
  have hoI : (o : Int) < 29 := by omega
  have CC : ∀ w', Fr [] W2 w' → Calls Tryz.prog n #[.pointer (some ⟨P.mb, 0, none⟩), .pointer (some ⟨g, N * 4, none⟩), .pointer (some ⟨ib, io + j * 6, none⟩)] w' (fun e w3 => e = okE ∧ Hid (DoP w B P c s' (idle + 1) okE okE w3)) := fun w' f' => (C w' (M2.out.fr0 f') (HT.out.fr (G2.out.trans f') (by simp)) (HQ.out.fr (G2.out.trans f') (by simp)) (Nat.le_trans HF1.out.size (G2.out.trans f').size)).mono fun e w3 ⟨e1, P', m1, m2, m3, m4, m5, m6, m7⟩ => ⟨e1, rfl, P', m1, m2, m3, m4, m5, ((HF1.out.sub (T := footM P) (fun k hk => .inl (by simp at hk; simp [footM, hk]))).trans ((G2.out.trans f').sub (by simp))).trans m6, fun k hk => (m7 k hk).imp id (fun h => Nat.le_trans (Nat.le_trans HF1.out.size (G2.out.trans f').size) h)⟩
  have RD : Fr [] W2 W2.drew := (Fr.refl _ _).drew
  clear CH g2 C HG1 hw ho hx HF1
  go_wp2_with fail
  go_region_with (first
    | (with_reducible (refine (CC _ RD).mono ?_); rintro e w3 ⟨rfl, D3⟩))
  all_goals
    clear CC
    go_wp2
    go_end0
    exact D3.out
theorem cf87 (a : Array Value) (w' : World) : (callFunc 87 a).run Tryz.prog w' = .ok (.enter 87 a) w' := by kernel_rfl
end
end Go.Proofs.YtkjkpkmmojchiaaGreatDoor

namespace Go.Proofs.YtkjkpkmmojchiaaGreatDoor
open Go.RowKit
set_option linter.unusedVariables false
set_option linter.unusedSimpArgs false

section
variable {w : World} {B : Nat} {P : MP} {c : Cf} {s : St} {idle : Int}
set_option maxRecDepth 100000 in
set_option maxHeartbeats 4000000 in
theorem do_thr (h : MAt w B P c s idle) {N g gc : Nat} {f : Fm} {v : Value} (t : Top w B P s N g gc f v) (hN : N ≤ 1000000) {fu : Fu} {x : In} {fb fo ib io i j : Nat} (q : Ins w B P f fu x fb fo ib io i j) (hF : P.F.length ≤ 2000000) (hc : fu.code.length ≤ 2000000) (h0 : 0 ≤ idle) (h1 : idle < 1000000)
    {o n : Nat} (hx : x.op = o) (ho : o < 29) (hw : waysA[o]? = some (.func (.func n) #[] #[])) (hcf : ∀ (a : Array Value) (w' : World), (callFunc n a).run Tryz.prog w' = .ok (.enter n a) w') {s' : St} {en vk vn tr : Int}
    (C : ∀ w', MAt w' B P c s (idle + 1) → Top w' B P s N g gc f v → Ins w' B P f fu x fb fo ib io i j → w.heap.size ≤ w'.heap.size → Calls Tryz.prog n #[.pointer (some ⟨P.mb, 0, none⟩), .pointer (some ⟨g, N * 4, none⟩), .pointer (some ⟨ib, io + j * 6, none⟩)] w' (DoP w' B P c s' (idle + 1) (thrE en vk vn tr))) :
    Calls Tryz.prog 60 #[.pointer (some ⟨P.mb, 0, none⟩)] w (DoP w B P c s' (idle + 1) (thrE en vk vn tr)) := by
  have c42 : w.cell? ⟨P.mb, 42, none⟩ = some (.int .i64 idle) := at_cells h.blk 42 rfl
  have z42 : w.frozen? ⟨P.mb, 42, none⟩ = false := by simp [World.frozen?, h.blk]
  have M1 := h.setIdle (idle + 1)
  have f1 : Fr [P.mb] w (w.setCell ⟨P.mb, 42, none⟩ (.int .i64 (idle + 1))) := (Fr.refl _ _).setCell (.inl (by simp)) _
  have hng : g ∉ [P.mb] := by
    simp
    intro e
    exact h.ne (mem_rfoot.2 (.inr (.inr (.inr (.inr (.inl (by rw [t.fvs, e]; rfl)))))))
  have T1 := t.fr f1 hng
  have Q1 := q.fr f1 (by simp; exact h.base)
  have hd : (idle == 1000000) = false := by simp; omega
  have HF1 : Hid (Fr [P.mb] w (w.setCell ⟨P.mb, 42, none⟩ (.int .i64 (idle + 1)))) := f1
  go_enter Tryz.func60, Tryz.ntmps60
  go_upto_region 3 with fail
  generalize w.setCell ⟨P.mb, 42, none⟩ (.int .i64 (idle + 1)) = W at *
  have CL := last_mk M1 T1 hN
  have HM : Hid (MAt W B P c s (idle + 1)) := M1
  have HT : Hid (Top W B P s N g gc f v) := T1
  have HQ : Hid (Ins W B P f fu x fb fo ib io i j) := Q1
  clear h t q M1 T1 Q1 f1 c42 z42 hng hd
  go_wp2_with fail
  with_reducible (refine CL.mono ?_)
  rintro e W1 ⟨rfl, g1⟩
  have M1 := HM.out.fr0 g1
  have T1 := HT.out.fr g1 (by simp)
  have Q1 := HQ.out.fr g1 (by simp)
  have CH := here_mk M1 T1 hN Q1 hF hc
  have HG1 : Hid (Fr [] W W1) := g1
  clear CL g1 M1 T1 Q1
  go_wp2_with fail
  with_reducible (refine CH.mono ?_)
  rintro e W2 ⟨rfl, g2⟩
  have G2 : Hid (Fr [] W W2) := HG1.out.trans g2
  have M2 : Hid (MAt W2 B P c s (idle + 1)) := HM.out.fr0 G2.out
  have D0 : W2.cell? ⟨ib, io + j * 6, none⟩ = some (.int .i64 (o : Int)) := by rw [← hx]; exact (HQ.out.fr G2.out (by simp)).ic.c0
  have DW : W2.cell? ⟨P.mb, 1 + o, none⟩ = some (.func (.func n) #[] #[]) := at_cells M2.out.blk (1 + o) (by rw [mA_way _ _ _ _ _ ho]; exact hw)
  have hoI : (o : Int) < 29 := by omega
  have CC : ∀ w', Fr [] W2 w' → Calls Tryz.prog n #[.pointer (some ⟨P.mb, 0, none⟩), .pointer (some ⟨g, N * 4, none⟩), .pointer (some ⟨ib, io + j * 6, none⟩)] w' (fun e w3 => e = .panicked [{ v := .iface 75 (.agg #[.int .i64 en, .int .i64 vk, .int .i64 vn, .int .i64 tr]), recovered := false }] ∧ Hid (DoP w B P c s' (idle + 1) (thrE en vk vn tr) (.panicked [{ v := .iface 75 (.agg #[.int .i64 en, .int .i64 vk, .int .i64 vn, .int .i64 tr]), recovered := false }]) w3)) := fun w' f' => (C w' (M2.out.fr0 f') (HT.out.fr (G2.out.trans f') (by simp)) (HQ.out.fr (G2.out.trans f') (by simp)) (Nat.le_trans HF1.out.size (G2.out.trans f').size)).mono fun e w3 ⟨e1, P', m1, m2, m3, m4, m5, m6, m7⟩ => ⟨e1, rfl, P', m1, m2, m3, m4, m5, ((HF1.out.sub (T := footM P) (fun k hk => .inl (by simp at hk; simp [footM, hk]))).trans ((G2.out.trans f').sub (by simp))).trans m6, fun k hk => (m7 k hk).imp id (fun h => Nat.le_trans (Nat.le_trans HF1.out.size (G2.out.trans f').size) h)⟩
  have RD : Fr [] W2 W2.drew := (Fr.refl _ _).drew
  clear CH g2 C HG1 hw ho hx HF1
  go_wp2_with fail
  go_region_dies
  all_goals
    with_reducible (refine (CC _ RD).mono ?_)
    rintro e w3 ⟨rfl, D3⟩
    exact bodyPost_panic rfl D3.out
end
end Go.Proofs.YtkjkpkmmojchiaaGreatDoor

namespace Go.Proofs.YtkjkpkmmojchiaaGreatDoor
open Go.RowKit
set_option linter.unusedVariables false
set_option linter.unusedSimpArgs false

def St.ends (s : St) (en vk vn trap : Int) : St := { s with done := true, en := en, vk := vk, vn := vn, trap := trap }
section
variable {w : World} {B : Nat} {P : MP} {c : Cf} {s : St} {idle : Int}
theorem wp_tmpsz {c : Code} {Q : Exit → Act → World → Prop} {X Y : Array Value} {w : World} (h : X = Y) (k : c.wp Tryz.prog Q { tmps := Y, defers := [] } w) : c.wp Tryz.prog Q { tmps := X, defers := [] } w := h ▸ k
set_option maxRecDepth 100000 in
set_option maxHeartbeats 2000000 in
theorem catchE_idle (p q : Addr) (w : World) :
    CallsD Tryz.prog 59 #[.pointer (some p), .pointer (some q)] .returning w fun e u' w' => e = .returned (.tuple #[]) ∧ u' = .returning ∧ w' = w := by
  refine callsD_of_wpS Tryz.func59 rfl fun c₀ cs hu => ?_
  apply wpS_seq
  apply wpS_region
  simp [wpOpsS, go_sem, recoverD, hu, Tryz.ntmps59, Exit.thenS]
  apply wpS_of_wp
  refine wp_tmpsz (Y := #[.pointer (some p), .pointer (some q), undef, undef, undef, .nilIface, undef, undef, undef, undef, undef, undef, undef, undef, undef, undef, undef, undef]) rfl ?_
  go_wp2
  cases c₀
  simp_all [bodyPostS, results, Tryz.results59]
/-- It comes to its end plainly. -/
def PlainE (K : World → Prop) : Exit → Act → World → Prop := fun e a w => (e = .normal ∨ e = .ret) ∧ a.defers = [] ∧ K w
theorem assert75 (v : Value) (w : World) : (Instr.typeAssert (.iface 75 v) 20 75 true).run Tryz.prog w = .ok (.tuple #[v, .bool true]) w := by kernel_rfl
theorem MAt.ended (h : MAt w B P c s idle) (en vk vn tr : Int) : MAt (((((w.setCell ⟨P.mb, 43, none⟩ (.bool true)).setCell ⟨P.mb, 44, none⟩ (.int .i64 en)).setCell ⟨P.mb, 45, none⟩ (.int .i64 vk)).setCell ⟨P.mb, 46, none⟩ (.int .i64 vn)).setCell ⟨P.mb, 47, none⟩ (.int .i64 tr)) B P c (s.ends en vk vn tr) idle := by
  have h1 := h.setM 43 (.bool true) (s' := { s with done := true }) (idle' := idle) rfl rfl rfl rfl rfl rfl rfl
  have h2 := h1.setM 44 (.int .i64 en) (s' := { s with done := true, en := en }) (idle' := idle) rfl rfl rfl rfl rfl rfl rfl
  have h3 := h2.setM 45 (.int .i64 vk) (s' := { s with done := true, en := en, vk := vk }) (idle' := idle) rfl rfl rfl rfl rfl rfl rfl
  have h4 := h3.setM 46 (.int .i64 vn) (s' := { s with done := true, en := en, vk := vk, vn := vn }) (idle' := idle) rfl rfl rfl rfl rfl rfl rfl
  exact h4.setM 47 (.int .i64 tr) (s' := s.ends en vk vn tr) (idle' := idle) rfl rfl rfl rfl rfl rfl rfl
theorem MAt.ended' (h : MAt w B P c s idle) (en vk vn tr : Int) : MAt (((((w.setCell ⟨P.mb, 44, none⟩ (.int .i64 en)).setCell ⟨P.mb, 45, none⟩ (.int .i64 vk)).setCell ⟨P.mb, 46, none⟩ (.int .i64 vn)).setCell ⟨P.mb, 47, none⟩ (.int .i64 tr)).setCell ⟨P.mb, 43, none⟩ (.bool true)) B P c (s.ends en vk vn tr) idle := by
  have h2 := h.setM 44 (.int .i64 en) (s' := { s with en := en }) (idle' := idle) rfl rfl rfl rfl rfl rfl rfl
  have h3 := h2.setM 45 (.int .i64 vk) (s' := { s with en := en, vk := vk }) (idle' := idle) rfl rfl rfl rfl rfl rfl rfl
  have h4 := h3.setM 46 (.int .i64 vn) (s' := { s with en := en, vk := vk, vn := vn }) (idle' := idle) rfl rfl rfl rfl rfl rfl rfl
  have h5 := h4.setM 47 (.int .i64 tr) (s' := { s with en := en, vk := vk, vn := vn, trap := tr }) (idle' := idle) rfl rfl rfl rfl rfl rfl rfl
  exact h5.setM 43 (.bool true) (s' := s.ends en vk vn tr) (idle' := idle) rfl rfl rfl rfl rfl rfl rfl
set_option maxRecDepth 100000 in
set_option maxHeartbeats 4000000 in
theorem catchE_thrown (h : MAt w B P c s idle) (b1 b2 : Nat) (u : Value) (e1 : w.heap[b1]? = some (.cells #[.pointer (some ⟨P.mb, 0, none⟩)] 46 (0, 0))) (e2 : w.heap[b2]? = some (.cells #[u] 3 (0, 0))) (en vk vn tr : Int) (hb2 : b2 ∉ footM P) (hB : B ≤ b2) :
    CallsD Tryz.prog 59 #[.pointer (some ⟨b1, 0, none⟩), .pointer (some ⟨b2, 0, none⟩)] (.panicking [{ v := .iface 75 (.agg #[.int .i64 en, .int .i64 vk, .int .i64 vn, .int .i64 tr]), recovered := false }]) w fun e u' w' => e = .returned (.tuple #[]) ∧ u' = .panicking [{ v := .iface 75 (.agg #[.int .i64 en, .int .i64 vk, .int .i64 vn, .int .i64 tr]), recovered := true }] ∧ MAt w' B P c (s.ends en vk vn tr) idle ∧ w'.heap[b2]? = some (.cells #[.int .i64 1] 3 (0, 0)) ∧ Fr [P.mb, b2] w w' := by
  have hne : P.mb ≠ b2 := fun e => hb2 (by simp [footM, e])
  refine callsD_of_wpS Tryz.func59 rfl fun c₀ cs hu => ?_
  apply wpS_seq
  apply wpS_region
  simp [wpOpsS, go_sem, recoverD, hu, Tryz.ntmps59, Exit.thenS]
  apply wpS_of_wp
  refine wp_mono (Q := PlainE (fun w' => MAt w' B P c (s.ends en vk vn tr) idle ∧ w'.heap[b2]? = some (.cells #[.int .i64 1] 3 (0, 0)) ∧ Fr [P.mb, b2] w w')) ?_ (fun e a w' hh => by
    obtain ⟨he, hd, hK⟩ := hh
    rcases he with rfl | rfl
    · exact ⟨hd, _, rfl, .tuple #[], by simp [results, Tryz.results59], rfl, rfl, hK⟩
    · exact ⟨hd, _, rfl, .tuple #[], by simp [results, Tryz.results59], rfl, rfl, hK⟩)
  generalize hQ : PlainE (fun w' => MAt w' B P c (s.ends en vk vn tr) idle ∧ w'.heap[b2]? = some (.cells #[.int .i64 1] 3 (0, 0)) ∧ Fr [P.mb, b2] w w') = QQ
  have HQ : Hid (PlainE (fun w' => MAt w' B P c (s.ends en vk vn tr) idle ∧ w'.heap[b2]? = some (.cells #[.int .i64 1] 3 (0, 0)) ∧ Fr [P.mb, b2] w w') = QQ) := hQ
  clear hQ hu
  refine wp_tmpsz (Y := #[.pointer (some ⟨b1, 0, none⟩), .pointer (some ⟨b2, 0, none⟩), undef, undef, undef, .iface 75 (.agg #[.int .i64 en, .int .i64 vk, .int .i64 vn, .int .i64 tr]), undef, undef, undef, undef, undef, undef, undef, undef, undef, undef, undef, undef]) rfl ?_
  have ha := assert75 (.agg #[.int .i64 en, .int .i64 vk, .int .i64 vn, .int .i64 tr]) w
  have hq : ∀ w v, (binOp .eql 20 (.iface 75 v) .nilIface).run Tryz.prog w = .ok (.bool false) w := fun w v => by kernel_rfl
  have gA : Fr [] w (w.alloc (.cells #[.int .i64 en, .int .i64 vk, .int .i64 vn, .int .i64 tr] 75)) := (Fr.refl _ _).alloc _
  have bA := heap_alloc_new w (.cells #[.int .i64 en, .int .i64 vk, .int .i64 vn, .int .i64 tr] 75)
  have E1 := (gA.block _ (Array.getElem?_eq_some_iff.1 e1).1 (by simp)).trans e1
  have E2 := (gA.block _ (Array.getElem?_eq_some_iff.1 e2).1 (by simp)).trans e2
  have HA := h.fr0 gA
  go_upto_region 7 with fail
  generalize w.alloc (.cells #[.int .i64 en, .int .i64 vk, .int .i64 vn, .int .i64 tr] 75) = Y at *
  have c1 : Y.cell? ⟨b1, 0, none⟩ = some (.pointer (some ⟨P.mb, 0, none⟩)) := at_cells E1 0 rfl
  have a0 : Y.cell? ⟨w.heap.size, 0, none⟩ = some (.int .i64 en) := at_cells bA 0 rfl
  have a1 : Y.cell? ⟨w.heap.size, 1, none⟩ = some (.int .i64 vk) := at_cells bA 1 rfl
  have a2 : Y.cell? ⟨w.heap.size, 2, none⟩ = some (.int .i64 vn) := at_cells bA 2 rfl
  have a3 : Y.cell? ⟨w.heap.size, 3, none⟩ = some (.int .i64 tr) := at_cells bA 3 rfl
  have m43 : Y.cell? ⟨P.mb, 43, none⟩ = some (.bool s.done) := at_cells HA.blk 43 rfl
  have m44 : Y.cell? ⟨P.mb, 44, none⟩ = some (.int .i64 s.en) := at_cells HA.blk 44 rfl
  have m45 : Y.cell? ⟨P.mb, 45, none⟩ = some (.int .i64 s.vk) := at_cells HA.blk 45 rfl
  have m46 : Y.cell? ⟨P.mb, 46, none⟩ = some (.int .i64 s.vn) := at_cells HA.blk 46 rfl
  have m47 : Y.cell? ⟨P.mb, 47, none⟩ = some (.int .i64 s.trap) := at_cells HA.blk 47 rfl
  have zm : ∀ i, Y.frozen? ⟨P.mb, i, none⟩ = false := fun i => by simp [World.frozen?, HA.blk]
  have z2 : Y.frozen? ⟨b2, 0, none⟩ = false := by simp [World.frozen?, E2]
  have d2 : Y.cell? ⟨b2, 0, none⟩ = some u := at_cells E2 0 rfl
  have n1 : P.mb ≠ b1 := fun e => by
    have := E1
    rw [← e, HA.blk] at this
    injection this with this
    injection this with _ this _
    cases this
  have n2 : P.mb ≠ w.heap.size := by have := (Array.getElem?_eq_some_iff.1 h.blk).1; omega
  have HHA : Hid (MAt Y B P c s idle) := HA
  have HGA : Hid (Fr [] w Y) := gA
  have HE2 : Hid (Y.heap[b2]? = some (.cells #[u] 3 (0, 0))) := E2
  have HB2 : Hid (b2 ∉ footM P ∧ B ≤ b2) := ⟨hb2, hB⟩
  clear h e1 e2 gA bA E1 E2 HA ha hq hb2 hB
  go_region
  all_goals
    have ME := HHA.out.ended en vk vn tr
    have FE : Fr [P.mb] Y (((((Y.setCell ⟨P.mb, 43, none⟩ (.bool true)).setCell ⟨P.mb, 44, none⟩ (.int .i64 en)).setCell ⟨P.mb, 45, none⟩ (.int .i64 vk)).setCell ⟨P.mb, 46, none⟩ (.int .i64 vn)).setCell ⟨P.mb, 47, none⟩ (.int .i64 tr)) := (((((Fr.refl _ _).setCell (.inl (by simp)) _).setCell (.inl (by simp)) _).setCell (.inl (by simp)) _).setCell (.inl (by simp)) _).setCell (.inl (by simp)) _
    generalize ((((Y.setCell ⟨P.mb, 43, none⟩ (.bool true)).setCell ⟨P.mb, 44, none⟩ (.int .i64 en)).setCell ⟨P.mb, 45, none⟩ (.int .i64 vk)).setCell ⟨P.mb, 46, none⟩ (.int .i64 vn)).setCell ⟨P.mb, 47, none⟩ (.int .i64 tr) = Z at *
    have ME2 : Hid (MAt Z.drew B P c (s.ends en vk vn tr) idle) := ME.fr0 ((Fr.refl _ _).drew)
    have FE2 : Hid (Fr [P.mb] Y Z.drew) := FE.drew
    have eb : Z.drew.heap[b2]? = some (.cells #[u] 3 (0, 0)) := (FE2.out.block _ (Array.getElem?_eq_some_iff.1 HE2.out).1 (by simpa using Ne.symm hne)).trans HE2.out
    have HEB : Hid (Z.drew.heap[b2]? = some (.cells #[u] 3 (0, 0))) := eb
    clear ME FE c1 a0 a1 a2 a3 m43 m44 m45 m46 m47 zm z2 d2 n1 n2
    have d2 : Z.drew.cell? ⟨b2, 0, none⟩ = some u := at_cells eb 0 rfl
    have z2 : Z.drew.frozen? ⟨b2, 0, none⟩ = false := by simp [World.frozen?, eb]
    clear eb
    generalize Z.drew = X at *
    go_wp2
    rw [← HQ.out]
    refine ⟨.inl rfl, rfl, ?_, set_same HEB.out, ?_⟩
    · exact ME2.out.fr (S := [b2]) ((Fr.refl _ _).setCell (.inl (by simp)) _) (fun k hk hm => by simp at hm; subst hm; exact HB2.out.1 hk) (by simp; exact HB2.out.2)
    · exact (((HGA.out.sub (T := [P.mb, b2]) (by simp)).trans (FE2.out.sub (by simp))).setCell (.inl (by simp)) _)
end
end Go.Proofs.YtkjkpkmmojchiaaGreatDoor
