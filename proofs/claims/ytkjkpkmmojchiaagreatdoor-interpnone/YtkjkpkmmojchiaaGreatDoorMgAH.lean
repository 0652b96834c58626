/-
  Texts of the proof, in their order: MbG, MbS, MbN, MbH; conditions: as each theorem says.
-/
import Derived.Test.YtkjkpkmmojchiaaGreatDoorMgAG
import Derived.Test.YtkjkpkmmojchiaaGreatDoorMgAF
import Derived.Deep.RegionHeld3
namespace Go.Proofs.YtkjkpkmmojchiaaGreatDoor
open Go.RowKit
set_option linter.unusedVariables false
set_option linter.unusedSimpArgs false

def exIns : List In := [⟨1, 0, 0, 0, 7, none, 0, []⟩, ⟨16, 0, 0, 0, 0, none, 0, []⟩, ⟨24, 0, 0, 0, 0, none, 0, []⟩]
def exFu (N : Nat) : Fu := ⟨⟨#[]⟩, 0, 1, some ⟨N, 0, none⟩, 3, exIns⟩
def exCells : Array Value := #[.int .i64 1, .int .i64 0, .int .i64 0, .int .i64 0, .int .i64 7, .slice none 0 0, .int .i64 16, .int .i64 0, .int .i64 0, .int .i64 0, .int .i64 0, .slice none 0 0, .int .i64 24, .int .i64 0, .int .i64 0, .int .i64 0, .int .i64 0, .slice none 0 0]
/-- The example's code lies in memory. -/
structure ExAt (w : World) (N M : Nat) : Prop where
  ins : w.heap[N]? = some (.cells exCells 80 (0, 0))
  fn : w.heap[M]? = some (.cells #[.string ⟨#[]⟩, .int .i64 0, .int .i64 1, .slice (some ⟨N, 0, none⟩) 3 3] 87 (0, 0))
theorem ExAt.fr {w w' : World} {N M : Nat} (h : ExAt w N M) (f : Fr [] w w') : ExAt w' N M := ⟨(f.block _ (Array.getElem?_eq_some_iff.1 h.ins).1 (by simp)).trans h.ins, (f.block _ (Array.getElem?_eq_some_iff.1 h.fn).1 (by simp)).trans h.fn⟩
theorem InOk.nil {B : Nat} {w : World} {op a b c k : Int} : InOk B w ⟨op, a, b, c, k, none, 0, []⟩ := ⟨KAt.nil, by simp, by simp, fun _ => rfl⟩
theorem ExAt.fu {w : World} {N M : Nat} (h : ExAt w N M) : FuOk w.heap.size w (exFu N) := by
  have hN := (Array.getElem?_eq_some_iff.1 h.ins).1
  refine ⟨fun i x hx => ⟨N, 0, rfl, hN, ?_⟩, by simp [exFu, ByteArray.size], by simp [exFu, exIns], by simp [exFu, exIns], fun h => by cases h⟩
  match i, hx with
  | 0, hx =>
    simp [exFu, exIns] at hx
    subst hx
    exact ⟨at_cells h.ins 0 rfl, at_cells h.ins 1 rfl, at_cells h.ins 2 rfl, at_cells h.ins 3 rfl, at_cells h.ins 4 rfl, at_cells h.ins 5 rfl, InOk.nil⟩
  | 1, hx =>
    simp [exFu, exIns] at hx
    subst hx
    exact ⟨at_cells h.ins 6 rfl, at_cells h.ins 7 rfl, at_cells h.ins 8 rfl, at_cells h.ins 9 rfl, at_cells h.ins 10 rfl, at_cells h.ins 11 rfl, InOk.nil⟩
  | 2, hx =>
    simp [exFu, exIns] at hx
    subst hx
    exact ⟨at_cells h.ins 12 rfl, at_cells h.ins 13 rfl, at_cells h.ins 14 rfl, at_cells h.ins 15 rfl, at_cells h.ins 16 rfl, at_cells h.ins 17 rfl, InOk.nil⟩
  | q + 3, hx => simp [exFu, exIns] at hx
theorem wf7 : wfI 7 := by unfold wfI; decide
theorem wf0 : wfI 0 := by unfold wfI; decide
theorem ExAt.cd {w : World} {N M : Nat} (h : ExAt w N M) : CdOk w.heap.size w [exFu N] (some ⟨M, 0, none⟩) [exFu N].length 0 := by
  have hM := (Array.getElem?_eq_some_iff.1 h.fn).1
  refine ⟨fun i f hi => ⟨M, 0, rfl, hM, ?_⟩, rfl, ⟨?_, ?_, by simp [totC, exFu, exIns]⟩, by simp, by omega, by omega⟩
  · match i, hi with
    | 0, hi =>
      simp at hi
      subst hi
      exact ⟨at_cells h.fn 0 rfl, at_cells h.fn 1 rfl, at_cells h.fn 2 rfl, at_cells h.fn 3 rfl, h.fu⟩
  · intro f hf x hx
    simp at hf
    subst hf
    simp [exFu, exIns] at hx
    rcases hx with rfl | rfl | rfl
    · exact wf7
    · exact wf0
    · exact wf0
  · intro f hf x hx
    simp at hf
    subst hf
    simp [exFu, exIns] at hx
    rcases hx with rfl | rfl | rfl <;> simp
theorem ex_check (N : Nat) : checkO [exFu N] 0 0 = (0, 0, 0) := by rfl
theorem ex_new (w : World) (T : Tabs w) {N M : Nat} (h : ExAt w N M) : Calls Tryz.prog 15 #[.agg #[.slice (some ⟨M, 0, none⟩) 1 1, .int .i64 0, .int .i64 0], .slice none 0 0, .slice none 0 0, .agg #[.int .i64 0, .int .i64 1, .int .i64 0]] w fun e w' => ∃ P B', e = .returned (.tuple #[.pointer (some ⟨P.mb, 0, none⟩), .int .i64 0]) ∧ MAt w' B' P exC exS0 0 ∧ B' ≤ w'.heap.size ∧ Fr [] w w' ∧ (∀ k ∈ footM P, w.heap.size ≤ k) := by
  have hl : ∀ f ∈ [exFu N], ∀ x ∈ f.code, x.l.length ≤ 2000000000000 := by
    intro f hf x hx
    simp at hf
    subst hf
    simp [exFu, exIns] at hx
    rcases hx with rfl | rfl | rfl <;> simp
  have r := new_ok w w.heap.size [exFu N] (some ⟨M, 0, none⟩) 1 0 0 [] [] none none 0 0 0 1 0 T h.cd (Nat.le_refl _) (by simp) (by simp) (by intro f hf; simp at hf; subst hf; simp [exFu, exIns]) hl (by intro f hf; simp at hf; subst hf; simp [exFu, ByteArray.size]) KAt.nil (by simp) (by simp) KAt.nil (by simp) (by simp) (ex_check N) (i := 0) (n := 1) (fu := exFu N) rfl rfl rfl (by omega)
  refine r.mono fun e w' ⟨P, B', h1, h2, h3, h4, _, h5, h6⟩ => ⟨P, B', h1, ?_, h4, h5, h6⟩
  exact h2
/-- A run of the example, so far. -/
def exK (k : Nat) : St := if k = 0 then exS0 else if k = 1 then exS1 else exS2
structure ExR (w wr : World) (mb : Nat) (k : Nat) (P : MP) (B : Nat) : Prop where
  le : k ≤ 2
  mb : P.mb = mb
  m : MAt wr B P exC (exK k) k
  b : B ≤ wr.heap.size
  fr : Fr [] w wr
  ft : ∀ j ∈ footM P, w.heap.size ≤ j
theorem ExR.next {w wr w' : World} {mb k : Nat} {P : MP} {B : Nat} {s' : St} {i' : Int} {e0 e : Ending} (h : ExR w wr mb k P B) (d : DoP wr B P exC s' i' e0 e w') : ∃ P', MAt w' B P' exC s' i' ∧ P'.mb = mb ∧ B ≤ w'.heap.size ∧ Fr [] w w' ∧ (∀ j ∈ footM P', w.heap.size ≤ j) := by
  obtain ⟨_, P', m1, m2, _, _, _, m6, m7⟩ := d
  refine ⟨P', m1, m2.trans h.mb, Nat.le_trans h.b m6.size, h.fr.next m6 (fun j hj => .inr (h.ft j hj)), fun j hj => ?_⟩
  rcases m7 j hj with h1 | h1
  · exact h.ft j h1
  · exact Nat.le_trans h.fr.size h1
set_option maxRecDepth 100000 in
set_option maxHeartbeats 4000000 in
theorem ex_run (w : World) (T : Tabs w) {N M : Nat} (h : ExAt w N M) : Calls Tryz.prog 11 #[.agg #[.slice (some ⟨M, 0, none⟩) 1 1, .int .i64 0, .int .i64 0], .slice none 0 0, .slice none 0 0, .agg #[.int .i64 0, .int .i64 1, .int .i64 0]] w fun e w' => ∃ oa oc hb, e = .returned (.tuple #[.agg #[.int .i64 0, .int .i64 0, .int .i64 7, .int .i64 0, .slice oa 1 oc, .int .i64 0, .int .i64 0, .int .i64 0], .pointer (some ⟨hb, 0, none⟩), .int .i64 0]) ∧ Fr [] w w' := by
  have f3 : Fr [] w (((w.alloc (.cells #[.slice (some ⟨M, 0, none⟩) 1 1, .int .i64 0, .int .i64 0] 24)).alloc (.cells #[.int .i64 0, .int .i64 1, .int .i64 0] 27)).alloc (.cells #[.int .i64 0, .int .i64 0, .int .i64 0, .int .i64 0, .slice none 0 0, .int .i64 0, .int .i64 0, .int .i64 0] 35)) := (((Fr.refl _ _).alloc _).alloc _).alloc _
  have b1 : (((w.alloc (.cells #[.slice (some ⟨M, 0, none⟩) 1 1, .int .i64 0, .int .i64 0] 24)).alloc (.cells #[.int .i64 0, .int .i64 1, .int .i64 0] 27)).alloc (.cells #[.int .i64 0, .int .i64 0, .int .i64 0, .int .i64 0, .slice none 0 0, .int .i64 0, .int .i64 0, .int .i64 0] 35)).heap[w.heap.size]? = some (.cells #[.slice (some ⟨M, 0, none⟩) 1 1, .int .i64 0, .int .i64 0] 24 (0, 0)) := keep_alloc (keep_alloc (heap_alloc_new w _))
  have b2 : (((w.alloc (.cells #[.slice (some ⟨M, 0, none⟩) 1 1, .int .i64 0, .int .i64 0] 24)).alloc (.cells #[.int .i64 0, .int .i64 1, .int .i64 0] 27)).alloc (.cells #[.int .i64 0, .int .i64 0, .int .i64 0, .int .i64 0, .slice none 0 0, .int .i64 0, .int .i64 0, .int .i64 0] 35)).heap[w.heap.size + 1]? = some (.cells #[.int .i64 0, .int .i64 1, .int .i64 0] 27 (0, 0)) := keep_alloc (blk2 w _ _)
  have b3 : (((w.alloc (.cells #[.slice (some ⟨M, 0, none⟩) 1 1, .int .i64 0, .int .i64 0] 24)).alloc (.cells #[.int .i64 0, .int .i64 1, .int .i64 0] 27)).alloc (.cells #[.int .i64 0, .int .i64 0, .int .i64 0, .int .i64 0, .slice none 0 0, .int .i64 0, .int .i64 0, .int .i64 0] 35)).heap[w.heap.size + 1 + 1]? = some (.cells #[.int .i64 0, .int .i64 0, .int .i64 0, .int .i64 0, .slice none 0 0, .int .i64 0, .int .i64 0, .int .i64 0] 35 (0, 0)) := new_alloc _ (by simp [World.size_alloc])
  have T3 := T.fr f3 (by simp)
  have E3 := h.fr f3
  clear T h
  go_enter Tryz.func11, Tryz.ntmps11
  go_upto_region 1 with fail
  generalize ((w.alloc (.cells #[.slice (some ⟨M, 0, none⟩) 1 1, .int .i64 0, .int .i64 0] 24)).alloc (.cells #[.int .i64 0, .int .i64 1, .int .i64 0] 27)).alloc (.cells #[.int .i64 0, .int .i64 0, .int .i64 0, .int .i64 0, .slice none 0 0, .int .i64 0, .int .i64 0, .int .i64 0] 35) = W at *
  have CN := ex_new W T3 E3
  have c0 : W.cell? ⟨w.heap.size, 0, none⟩ = some _ := at_cells b1 0 rfl
  have c1 : W.cell? ⟨w.heap.size, 1, none⟩ = some _ := at_cells b1 1 rfl
  have c2 : W.cell? ⟨w.heap.size, 2, none⟩ = some _ := at_cells b1 2 rfl
  have d0 : W.cell? ⟨w.heap.size + 1, 0, none⟩ = some _ := at_cells b2 0 rfl
  have d1 : W.cell? ⟨w.heap.size + 1, 1, none⟩ = some _ := at_cells b2 1 rfl
  have d2 : W.cell? ⟨w.heap.size + 1, 2, none⟩ = some _ := at_cells b2 2 rfl
  have HF3 : Hid (Fr [] w W) := f3
  have HB3 : Hid (W.heap[w.heap.size + 1 + 1]? = some (.cells #[.int .i64 0, .int .i64 0, .int .i64 0, .int .i64 0, .slice none 0 0, .int .i64 0, .int .i64 0, .int .i64 0] 35 (0, 0))) := b3
  clear f3 b1 b2 b3 T3 E3
  go_wp2_with fail
  with_reducible (refine CN.mono ?_)
  rintro e X ⟨P, B, rfl, MX, hBX, fX, ftX⟩
  have I0 : Hid (ExR W X P.mb 0 P B) := ⟨by omega, rfl, MX, hBX, fX, ftX⟩
  clear CN c0 c1 c2 d0 d1 d2 MX hBX fX ftX
  generalize P.mb = mb at *
  go_wp2
  go_loopw [26] (fun i wr => ∃ (k : Nat) (Q : MP) (B : Nat), Hid (ExR W wr mb k Q B)) (fun i wr => 3 - (intOf ((wr.cell? ⟨mb, 42, none⟩).getD undef)).toNat)
  case atStart => exact ⟨0, P, B, I0⟩
  case round =>
    obtain ⟨k, Q, B1, I⟩ := hrel
    have c42 : wr.cell? ⟨mb, 42, none⟩ = some (.int .i64 (k : Int)) := by rw [← I.out.mb]; exact at_cells I.out.m.blk 42 rfl
    have HC42 : Hid (wr.cell? ⟨mb, 42, none⟩ = some (.int .i64 (k : Int))) := c42
    clear c42
    have hk := I.out.le
    have hk3 : k = 0 ∨ k = 1 ∨ k = 2 := by omega
    clear hk
    rcases hk3 with rfl | rfl | rfl
    · have C := ex_step1 I.out.m
      rw [I.out.mb] at C
      go_wp2_with fail
      with_reducible (refine C.mono ?_)
      rintro e Y hD
      have he := hD.1
      subst he
      obtain ⟨Q', m1, m2, m3, m4, m5⟩ := I.out.next hD
      have I' : Hid (ExR W Y mb 1 Q' B1) := ⟨by omega, m2, m1, m3, m4, m5⟩
      clear C hD m1 m2 m3 m4 m5
      go_wp2
      go_roundw
      case rel => exact ⟨1, Q', B1, I'⟩
      case measure =>
        have e1 : Y.cell? ⟨mb, 42, none⟩ = some (.int .i64 1) := by rw [← I'.out.mb]; exact at_cells I'.out.m.blk 42 rfl
        rw [HC42.out, e1]
        simp [intOf]
    · have C := ex_step2 I.out.m I.out.b
      rw [I.out.mb] at C
      go_wp2_with fail
      with_reducible (refine C.mono ?_)
      rintro e Y hD
      have he := hD.1
      subst he
      obtain ⟨Q', m1, m2, m3, m4, m5⟩ := I.out.next hD
      have I' : Hid (ExR W Y mb 2 Q' B1) := ⟨by omega, m2, m1, m3, m4, m5⟩
      clear C hD m1 m2 m3 m4 m5
      go_wp2
      go_roundw
      case rel => exact ⟨2, Q', B1, I'⟩
      case measure =>
        have e1 : Y.cell? ⟨mb, 42, none⟩ = some (.int .i64 2) := by rw [← I'.out.mb]; exact at_cells I'.out.m.blk 42 rfl
        rw [HC42.out, e1]
        simp [intOf]
    · have C := ex_step3 I.out.m
      rw [I.out.mb] at C
      go_wp2_with fail
      with_reducible (refine C.mono ?_)
      rintro e Y hD
      have he := hD.1
      subst he
      obtain ⟨Q', m1, m2, m3, m4, m5⟩ := I.out.next hD
      have CR := result_done m1 rfl (by simp [exS3, exS2, exS1, exS0, St.pop, St.top, St.start, St.ends])
      rw [m2] at CR
      have HM1 : Hid (MAt Y B1 Q' exC exS3 3) := m1
      have HM2 : Hid (Q'.mb = mb) := m2
      have HM4 : Hid (Fr [] W Y) := m4
      clear C hD m1 m2 m3 m4 m5
      go_wp2_with fail
      with_reducible (refine CR.mono ?_)
      rintro e Z ⟨oa, oc, rfl, _, fZ⟩
      have CH := heap_mk (HM1.out.fr0 fZ)
      rw [HM2.out] at CH
      have b4 := ((HM4.out.trans fZ).block _ (Array.getElem?_eq_some_iff.1 HB3.out).1 (by simp)).trans HB3.out
      have q0 : Z.cell? ⟨w.heap.size + 1 + 1, 0, none⟩ = some _ := at_cells b4 0 rfl
      have q1 : Z.cell? ⟨w.heap.size + 1 + 1, 1, none⟩ = some _ := at_cells b4 1 rfl
      have q2 : Z.cell? ⟨w.heap.size + 1 + 1, 2, none⟩ = some _ := at_cells b4 2 rfl
      have q3 : Z.cell? ⟨w.heap.size + 1 + 1, 3, none⟩ = some _ := at_cells b4 3 rfl
      have q4 : Z.cell? ⟨w.heap.size + 1 + 1, 4, none⟩ = some _ := at_cells b4 4 rfl
      have q5 : Z.cell? ⟨w.heap.size + 1 + 1, 5, none⟩ = some _ := at_cells b4 5 rfl
      have q6 : Z.cell? ⟨w.heap.size + 1 + 1, 6, none⟩ = some _ := at_cells b4 6 rfl
      have q7 : Z.cell? ⟨w.heap.size + 1 + 1, 7, none⟩ = some _ := at_cells b4 7 rfl
      have zz : ∀ i, Z.frozen? ⟨w.heap.size + 1 + 1, i, none⟩ = false := fun i => by simp [World.frozen?, b4]
      have HZ : Hid (Fr [] w Z) := (HF3.out.trans HM4.out).trans fZ
      have HB4 : Hid (Z.heap[w.heap.size + 1 + 1]? = some (.cells #[.int .i64 0, .int .i64 0, .int .i64 0, .int .i64 0, .slice none 0 0, .int .i64 0, .int .i64 0, .int .i64 0] 35 (0, 0))) := b4
      clear CR fZ b4 HM1 HM2 HM4
      go_wp2_with (go_at_call 42; refine CH.mono ?_; rintro e w' ⟨rfl, hw⟩; rw [hw])
      have hres := (set_cells 7 (.int .i64 exS3.used) (set_cells 6 (.int .i64 exS3.steps) (set_cells 5 (.int .i64 (exS3.read : Int)) (set_cells 4 (.slice oa exS3.out.length oc) (set_cells 3 (.int .i64 exS3.trap) (set_cells 2 (.int .i64 exS3.vn) (set_cells 1 (.int .i64 exS3.vk) (set_cells 0 (.int .i64 exS3.en) HB4.out))))))))
      have r0 := at_cells hres 0 rfl
      have r1 := at_cells hres 1 rfl
      have r2 := at_cells hres 2 rfl
      have r3 := at_cells hres 3 rfl
      have r4 := at_cells hres 4 rfl
      have r5 := at_cells hres 5 rfl
      have r6 := at_cells hres 6 rfl
      have r7 := at_cells hres 7 rfl
      refine bodyPost_ret (v := .tuple #[.agg #[.int .i64 exS3.en, .int .i64 exS3.vk, .int .i64 exS3.vn, .int .i64 exS3.trap, .slice oa exS3.out.length oc, .int .i64 (exS3.read : Int), .int .i64 exS3.steps, .int .i64 exS3.used], .pointer (some ⟨Q'.hb, 0, none⟩), .int .i64 0]) (by simp [results, Tryz.results11, go_sem, r0, r1, r2, r3, r4, r5, r6, r7]) rfl ⟨oa, oc, Q'.hb, rfl, ?_⟩
      exact ((((((((HZ.out.setCell (.inr (by simp; omega)) _).setCell (.inr (by simp; omega)) _).setCell (.inr (by simp; omega)) _).setCell (.inr (by simp; omega)) _).setCell (.inr (by simp; omega)) _).setCell (.inr (by simp; omega)) _).setCell (.inr (by simp; omega)) _).setCell (.inr (by simp; omega)) _)
end Go.Proofs.YtkjkpkmmojchiaaGreatDoor

namespace Go.Proofs.YtkjkpkmmojchiaaGreatDoor
open Go.RowKit
set_option linter.unusedVariables false
set_option linter.unusedSimpArgs false

set_option maxRecDepth 100000 in
set_option maxHeartbeats 4000000 in
theorem step_reg {X : World} {q : Option Addr} (CA : ∀ w', Fr [] X w' → Calls Tryz.prog 69 #[.pointer q] w' (fun e w1 => e = .returned (.bool false) ∧ Fr [] X w1))
    {Q : Exit → Act → World → Prop} {u1 u3 u4 u5 u6 u7 u8 u9 u10 u11 u12 u13 u14 u15 u16 u17 u18 u19 u20 u21 u22 u23 u24 u25 u26 : Value}
    (h : ∀ w1 n3 n4 n5 n6 n7 n8 n9 n10 n11 n12 n13 n14 n15, Fr [] X w1 → Q .normal { tmps := #[.pointer q, u1, .bool false, n3, n4, n5, n6, n7, n8, n9, n10, n11, n12, n13, n14, n15, .bool true, u17, u18, u19, u20, u21, u22, u23, u24, u25, u26], defers := [] } w1) :
    (Code.region 1 #[{ dst := some 3, op := Op.move (Operand.tmp 0), type := 46, pos := "tapes.go:18", after := #[], guard := none }, { dst := some 4, op := Op.call { callee := Callee.value (Operand.func 69), args := #[Operand.tmp 3], argTypes := #[46] }, type := 4, pos := "tapes.go:18", after := #[{ on := 0, ground := Ground.data }], guard := none }, { dst := some 5, op := Op.unOp UnOp.not 4 (Operand.tmp 4), type := 4, pos := "tapes.go:18", after := #[{ on := 1, ground := Ground.data }], guard := none }, { dst := some 6, op := Op.move (Operand.tmp 5), type := 4, pos := "tapes.go:18", after := #[{ on := 2, ground := Ground.data }, { on := 1, ground := Ground.chain }], guard := none }, { dst := some 7, op := Op.move (Operand.tmp 0), type := 46, pos := "tapes.go:18", after := #[{ on := 3, ground := Ground.guard }], guard := some (3, false) }, { dst := some 8, op := Op.nilCheck (Operand.tmp 7), type := 0, pos := "tapes.go:18", after := #[{ on := 4, ground := Ground.data }, { on := 3, ground := Ground.guard }], guard := some (3, false) }, { dst := some 9, op := Op.fieldAddr 77 (Operand.tmp 8) 11, type := 0, pos := "tapes.go:18", after := #[{ on := 5, ground := Ground.data }, { on := 3, ground := Ground.guard }], guard := some (3, false) }, { dst := some 10, op := Op.load 3 (Operand.tmp 9), type := 3, pos := "tapes.go:18", after := #[{ on := 6, ground := Ground.data }, { on := 3, ground := Ground.guard }], guard := some (3, false) }, { dst := some 11, op := Op.move (Operand.tmp 0), type := 46, pos := "tapes.go:18", after := #[{ on := 3, ground := Ground.guard }], guard := some (3, false) }, { dst := some 12, op := Op.nilCheck (Operand.tmp 11), type := 0, pos := "tapes.go:18", after := #[{ on := 8, ground := Ground.data }, { on := 3, ground := Ground.guard }], guard := some (3, false) }, { dst := some 13, op := Op.fieldAddr 77 (Operand.tmp 12) 5, type := 0, pos := "tapes.go:18", after := #[{ on := 9, ground := Ground.data }, { on := 3, ground := Ground.guard }], guard := some (3, false) }, { dst := some 14, op := Op.load 3 (Operand.tmp 13), type := 3, pos := "tapes.go:18", after := #[{ on := 10, ground := Ground.data }, { on := 3, ground := Ground.guard }], guard := some (3, false) }, { dst := some 15, op := Op.binOp BinOp.eql 3 (Operand.tmp 10) (Operand.tmp 14) 3, type := 4, pos := "tapes.go:18", after := #[{ on := 7, ground := Ground.data }, { on := 11, ground := Ground.data }, { on := 3, ground := Ground.guard }], guard := some (3, false) }, { dst := some 16, op := Op.pick (Operand.tmp 6) (Operand.const (Value.bool true)) (Operand.tmp 15), type := 4, pos := "tapes.go:18", after := #[{ on := 3, ground := Ground.data }, { on := 12, ground := Ground.data }], guard := none }] true).wp Tryz.prog Q { tmps := #[.pointer q, u1, .bool false, u3, u4, u5, u6, u7, u8, u9, u10, u11, u12, u13, u14, u15, u16, u17, u18, u19, u20, u21, u22, u23, u24, u25, u26], defers := [] } X := by
  refine wp_mono (Q := PlainR (fun a w => Q .normal a w)) ?_ (fun e a w h => by obtain ⟨rfl, h2⟩ := h; exact h2)
  refine wp_region_held (S := fun w' => Fr [] X w') (by kernel_rfl) ?_
  change wpAnyH _ _ _ _ _ _ _ _ X.drew
  have hS : Fr [] X X.drew := Fr.drew (Fr.refl _ X)
  generalize X.drew = Y at *
  refine wpAnyH_take (i := 0) (oi := { dst := some 3, op := Op.move (Operand.tmp 0), type := 46, pos := "tapes.go:18", after := #[], guard := none }) (v := .pointer q) rfl (by decide +kernel) (by decide +kernel) (by decide +kernel) (fun _ _ _ h => absurd h.1 (by simp)) (Or.inl ⟨by rfl, fun wq hSq => by first | rfl | go_simp⟩) hS ?_
  simp only [Act.put, List.setIfInBounds_toArray, List.set_cons_zero, List.set_cons_succ]
  refine wpAnyH_ready (rs := [1]) (by decide +kernel) (by simp) ?_
  refine AllReadyH.cons (o := { dst := some 4, op := Op.call { callee := Callee.value (Operand.func 69), args := #[Operand.tmp 3], argTypes := #[46] }, type := 4, pos := "tapes.go:18", after := #[{ on := 0, ground := Ground.data }], guard := none }) rfl (fun K hK => ?_) AllReadyH.nil
  go_simp
  refine (CA _ hS).mono ?_
  rintro e w1 ⟨rfl, hS⟩
  refine hK.out _ _ hS (fun _ => ?_)
  clear hK K
  try simp only [Act.put, List.setIfInBounds_toArray, List.set_cons_zero, List.set_cons_succ]
  refine wpAnyH_take (i := 2) (oi := { dst := some 5, op := Op.unOp UnOp.not 4 (Operand.tmp 4), type := 4, pos := "tapes.go:18", after := #[{ on := 1, ground := Ground.data }], guard := none }) (v := .bool true) rfl (by decide +kernel) (by decide +kernel) (by decide +kernel) (fun _ _ _ h => absurd h.1 (by simp)) (Or.inl ⟨by rfl, fun wq hSq => by first | rfl | go_simp⟩) hS ?_
  simp only [Act.put, List.setIfInBounds_toArray, List.set_cons_zero, List.set_cons_succ]
  refine wpAnyH_take (i := 3) (oi := { dst := some 6, op := Op.move (Operand.tmp 5), type := 4, pos := "tapes.go:18", after := #[{ on := 2, ground := Ground.data }, { on := 1, ground := Ground.chain }], guard := none }) (v := .bool true) rfl (by decide +kernel) (by decide +kernel) (by decide +kernel) (fun _ _ _ h => absurd h.1 (by simp)) (Or.inl ⟨by rfl, fun wq hSq => by first | rfl | go_simp⟩) hS ?_
  simp only [Act.put, List.setIfInBounds_toArray, List.set_cons_zero, List.set_cons_succ]
  refine wpAnyH_take (i := 4) (oi := { dst := some 7, op := Op.move (Operand.tmp 0), type := 46, pos := "tapes.go:18", after := #[{ on := 3, ground := Ground.guard }], guard := some (3, false) }) (v := undef) rfl (by decide +kernel) (by decide +kernel) (by decide +kernel) (fun _ _ _ h => absurd h.1 (by simp)) (Or.inr ⟨by rfl, rfl⟩) hS ?_
  simp only [Act.put, List.setIfInBounds_toArray, List.set_cons_zero, List.set_cons_succ]
  refine wpAnyH_take (i := 5) (oi := { dst := some 8, op := Op.nilCheck (Operand.tmp 7), type := 0, pos := "tapes.go:18", after := #[{ on := 4, ground := Ground.data }, { on := 3, ground := Ground.guard }], guard := some (3, false) }) (v := undef) rfl (by decide +kernel) (by decide +kernel) (by decide +kernel) (fun _ _ _ h => absurd h.1 (by simp)) (Or.inr ⟨by rfl, rfl⟩) hS ?_
  simp only [Act.put, List.setIfInBounds_toArray, List.set_cons_zero, List.set_cons_succ]
  refine wpAnyH_take (i := 6) (oi := { dst := some 9, op := Op.fieldAddr 77 (Operand.tmp 8) 11, type := 0, pos := "tapes.go:18", after := #[{ on := 5, ground := Ground.data }, { on := 3, ground := Ground.guard }], guard := some (3, false) }) (v := undef) rfl (by decide +kernel) (by decide +kernel) (by decide +kernel) (fun _ _ _ h => absurd h.1 (by simp)) (Or.inr ⟨by rfl, rfl⟩) hS ?_
  simp only [Act.put, List.setIfInBounds_toArray, List.set_cons_zero, List.set_cons_succ]
  refine wpAnyH_take (i := 7) (oi := { dst := some 10, op := Op.load 3 (Operand.tmp 9), type := 3, pos := "tapes.go:18", after := #[{ on := 6, ground := Ground.data }, { on := 3, ground := Ground.guard }], guard := some (3, false) }) (v := undef) rfl (by decide +kernel) (by decide +kernel) (by decide +kernel) (fun _ _ _ h => absurd h.1 (by simp)) (Or.inr ⟨by rfl, rfl⟩) hS ?_
  simp only [Act.put, List.setIfInBounds_toArray, List.set_cons_zero, List.set_cons_succ]
  refine wpAnyH_take (i := 8) (oi := { dst := some 11, op := Op.move (Operand.tmp 0), type := 46, pos := "tapes.go:18", after := #[{ on := 3, ground := Ground.guard }], guard := some (3, false) }) (v := undef) rfl (by decide +kernel) (by decide +kernel) (by decide +kernel) (fun _ _ _ h => absurd h.1 (by simp)) (Or.inr ⟨by rfl, rfl⟩) hS ?_
  simp only [Act.put, List.setIfInBounds_toArray, List.set_cons_zero, List.set_cons_succ]
  refine wpAnyH_take (i := 9) (oi := { dst := some 12, op := Op.nilCheck (Operand.tmp 11), type := 0, pos := "tapes.go:18", after := #[{ on := 8, ground := Ground.data }, { on := 3, ground := Ground.guard }], guard := some (3, false) }) (v := undef) rfl (by decide +kernel) (by decide +kernel) (by decide +kernel) (fun _ _ _ h => absurd h.1 (by simp)) (Or.inr ⟨by rfl, rfl⟩) hS ?_
  simp only [Act.put, List.setIfInBounds_toArray, List.set_cons_zero, List.set_cons_succ]
  refine wpAnyH_take (i := 10) (oi := { dst := some 13, op := Op.fieldAddr 77 (Operand.tmp 12) 5, type := 0, pos := "tapes.go:18", after := #[{ on := 9, ground := Ground.data }, { on := 3, ground := Ground.guard }], guard := some (3, false) }) (v := undef) rfl (by decide +kernel) (by decide +kernel) (by decide +kernel) (fun _ _ _ h => absurd h.1 (by simp)) (Or.inr ⟨by rfl, rfl⟩) hS ?_
  simp only [Act.put, List.setIfInBounds_toArray, List.set_cons_zero, List.set_cons_succ]
  refine wpAnyH_take (i := 11) (oi := { dst := some 14, op := Op.load 3 (Operand.tmp 13), type := 3, pos := "tapes.go:18", after := #[{ on := 10, ground := Ground.data }, { on := 3, ground := Ground.guard }], guard := some (3, false) }) (v := undef) rfl (by decide +kernel) (by decide +kernel) (by decide +kernel) (fun _ _ _ h => absurd h.1 (by simp)) (Or.inr ⟨by rfl, rfl⟩) hS ?_
  simp only [Act.put, List.setIfInBounds_toArray, List.set_cons_zero, List.set_cons_succ]
  refine wpAnyH_take (i := 12) (oi := { dst := some 15, op := Op.binOp BinOp.eql 3 (Operand.tmp 10) (Operand.tmp 14) 3, type := 4, pos := "tapes.go:18", after := #[{ on := 7, ground := Ground.data }, { on := 11, ground := Ground.data }, { on := 3, ground := Ground.guard }], guard := some (3, false) }) (v := undef) rfl (by decide +kernel) (by decide +kernel) (by decide +kernel) (fun _ _ _ h => absurd h.1 (by simp)) (Or.inr ⟨by rfl, rfl⟩) hS ?_
  simp only [Act.put, List.setIfInBounds_toArray, List.set_cons_zero, List.set_cons_succ]
  refine wpAnyH_take (i := 13) (oi := { dst := some 16, op := Op.pick (Operand.tmp 6) (Operand.const (Value.bool true)) (Operand.tmp 15), type := 4, pos := "tapes.go:18", after := #[{ on := 3, ground := Ground.data }, { on := 12, ground := Ground.data }], guard := none }) (v := .bool true) rfl (by decide +kernel) (by decide +kernel) (by decide +kernel) (fun _ _ _ h => absurd h.1 (by simp)) (Or.inl ⟨by rfl, fun wq hSq => by first | rfl | go_simp⟩) hS ?_
  simp only [Act.put, List.setIfInBounds_toArray, List.set_cons_zero, List.set_cons_succ]
  refine wpAnyH_done (by decide +kernel) ?_ _
  exact ⟨rfl, h _ _ _ _ _ _ _ _ _ _ _ _ _ _ hS⟩
end Go.Proofs.YtkjkpkmmojchiaaGreatDoor

namespace Go.Proofs.YtkjkpkmmojchiaaGreatDoor
open Go.RowKit
set_option linter.unusedVariables false
set_option linter.unusedSimpArgs false

/-- A machine that nobody made. -/
def NoM (w : World) (q : Option Addr) : Prop := ∀ w', Fr [] w w' → Calls Tryz.prog 69 #[.pointer q] w' (fun e w1 => e = .returned (.bool false) ∧ w1 = w')
theorem NoM.fr {w w' : World} {q : Option Addr} (h : NoM w q) (f : Fr [] w w') : NoM w' q := fun u g => h u (f.trans g)
set_option maxRecDepth 100000 in
theorem no_nil (w : World) : NoM w none := by
  intro w' f
  go_enter Tryz.func69, Tryz.ntmps69
  go_wp2
  go_ret
  exact ⟨rfl, rfl⟩
set_option maxRecDepth 100000 in
theorem no_zero (w : World) (z : Nat) (h : w.cell? ⟨z, 0, none⟩ = some (.bool false)) : NoM w (some ⟨z, 0, none⟩) := by
  intro w' f
  have c := f.cell1 h (by simp)
  clear h f
  go_enter Tryz.func69, Tryz.ntmps69
  go_wp2
  go_ret
  exact ⟨rfl, rfl⟩
set_option maxRecDepth 100000 in
theorem no_goes {w : World} {q : Option Addr} (h : NoM w q) : ∀ w', Fr [] w w' → Calls Tryz.prog 58 #[.pointer q] w' (fun e w1 => e = .returned (.bool false) ∧ w1 = w') := by
  intro w' f
  have C := h w' f
  clear h f
  go_enter Tryz.func58, Tryz.ntmps58
  go_wp2_with (go_at_call 69; refine C.mono ?_; rintro e w1 ⟨rfl, hw⟩; rw [hw])
  go_ret
  exact ⟨rfl, rfl⟩

set_option maxRecDepth 100000 in
set_option maxHeartbeats 2000000 in
theorem no_here {w : World} {q : Option Addr} (h : NoM w q) : Calls Tryz.prog 33 #[.pointer q] w fun e w' => e = .returned (.tuple #[.agg #[.int .i64 0, .int .i64 0, .int .i64 0, .int .i64 0, .int .i64 0, .slice none 0 0], .bool false]) ∧ Fr [] w w' := by
  have CA := no_goes h
  have FA : ∀ o, Fr [] w (w.alloc o) := fun o => (Fr.refl _ _).alloc _
  have HN : Hid (∀ o, (w.alloc o).heap[w.heap.size]? = some o) := fun o => heap_alloc_new w o
  have HFA : Hid (∀ o, Fr [] w (w.alloc o)) := FA
  clear h FA
  go_enter Tryz.func33, Tryz.ntmps33
  go_wp2_with (go_at_call 58; refine (CA _ (by first | exact Fr.refl _ _ | exact (Fr.refl _ _).alloc _ | exact ((Fr.refl _ _).alloc _).alloc _)).mono ?_; rintro e w1 ⟨rfl, hw⟩; rw [hw])
  have r := HN.out (.cells #[.int .i64 0, .int .i64 0, .int .i64 0, .int .i64 0, .int .i64 0, .slice none 0 0] 80)
  have r0 := at_cells r 0 rfl
  have r1 := at_cells r 1 rfl
  have r2 := at_cells r 2 rfl
  have r3 := at_cells r 3 rfl
  have r4 := at_cells r 4 rfl
  have r5 := at_cells r 5 rfl
  exact bodyPost_ret (v := .tuple #[.agg #[.int .i64 0, .int .i64 0, .int .i64 0, .int .i64 0, .int .i64 0, .slice none 0 0], .bool false]) (by simp [results, Tryz.results33, go_sem, r0, r1, r2, r3, r4, r5]) rfl ⟨rfl, HFA.out _⟩

set_option maxRecDepth 100000 in
set_option maxHeartbeats 2000000 in
theorem no_at {w : World} {q : Option Addr} (h : NoM w q) : Calls Tryz.prog 20 #[.pointer q] w fun e w' => e = .returned (.tuple #[.int .i64 0, .int .i64 0, .int .i64 0]) ∧ Fr [] w w' := by
  have CA := no_goes h
  have FA : ∀ o, Fr [] w (w.alloc o) := fun o => (Fr.refl _ _).alloc _
  have HN : Hid (∀ o, (w.alloc o).heap[w.heap.size]? = some o) := fun o => heap_alloc_new w o
  have HFA : Hid (∀ o, Fr [] w (w.alloc o)) := FA
  clear h FA
  go_enter Tryz.func20, Tryz.ntmps20
  go_wp2_with (go_at_call 58; refine (CA _ (by first | exact Fr.refl _ _ | exact (Fr.refl _ _).alloc _ | exact ((Fr.refl _ _).alloc _).alloc _)).mono ?_; rintro e w1 ⟨rfl, hw⟩; rw [hw])
  exact bodyPost_ret (results_tmp3 rfl _ _ _) rfl ⟨rfl, Fr.refl _ _⟩

set_option maxRecDepth 100000 in
set_option maxHeartbeats 2000000 in
theorem no_frames {w : World} {q : Option Addr} (h : NoM w q) : Calls Tryz.prog 34 #[.pointer q] w fun e w' => e = .returned (.slice none 0 0) ∧ Fr [] w w' := by
  have CA := h
  have FA : ∀ o, Fr [] w (w.alloc o) := fun o => (Fr.refl _ _).alloc _
  have HN : Hid (∀ o, (w.alloc o).heap[w.heap.size]? = some o) := fun o => heap_alloc_new w o
  have HFA : Hid (∀ o, Fr [] w (w.alloc o)) := FA
  clear h FA
  go_enter Tryz.func34, Tryz.ntmps34
  go_wp2_with (go_at_call 69; refine (CA _ (by first | exact Fr.refl _ _ | exact (Fr.refl _ _).alloc _ | exact ((Fr.refl _ _).alloc _).alloc _)).mono ?_; rintro e w1 ⟨rfl, hw⟩; rw [hw])
  go_ret
  exact ⟨rfl, by first | exact Fr.refl _ _ | exact HFA.out _⟩

set_option maxRecDepth 100000 in
set_option maxHeartbeats 2000000 in
theorem no_step {w : World} {q : Option Addr} (h : NoM w q) : Calls Tryz.prog 25 #[.pointer q] w fun e w' => e = .returned (.bool false) ∧ Fr [] w w' := by
  have CA : ∀ w', Fr [] w w' → Calls Tryz.prog 69 #[.pointer q] w' (fun e w1 => e = .returned (.bool false) ∧ Fr [] w w1) := fun w' f => (h w' f).mono fun e w1 ⟨a, b⟩ => ⟨a, by rw [b]; exact f⟩
  have RF : Fr [] w w := Fr.refl _ _
  have HD : ∀ w' : World, Fr [] w w' → Fr [] w w'.drew := fun w' h => h.drew
  clear h
  go_enter Tryz.func25, Tryz.ntmps25
  go_upto_region 1 with fail
  refine step_reg CA ?_
  intro w1 n3 n4 n5 n6 n7 n8 n9 n10 n11 n12 n13 n14 n15 FW
  have HFW : Hid (Fr [] w w1) := FW
  clear CA FW RF HD
  go_wp2
  go_ret
  exact ⟨rfl, HFW.out⟩

set_option maxRecDepth 100000 in
set_option maxHeartbeats 2000000 in
theorem no_next {w : World} {q : Option Addr} (h : NoM w q) : Calls Tryz.prog 17 #[.pointer q] w fun e w' => e = .returned (.int .i64 1) ∧ Fr [] w w' := by
  have CA := no_goes h
  have f2 : Fr [] w ((w.alloc (.cells #[.pointer q] 46)).alloc (.cells #[.int .i64 0] 3)) := ((Fr.refl _ _).alloc _).alloc _
  have b2 := blk2 w (.cells #[.pointer q] 46) (.cells #[.int .i64 0] 3)
  have b1 : ((w.alloc (.cells #[.pointer q] 46)).alloc (.cells #[.int .i64 0] 3)).heap[w.heap.size]? = some (.cells #[.pointer q] 46 (0, 0)) := (((Fr.refl [] _).alloc _).block _ (by simp) (by simp)).trans (heap_alloc_new w _)
  have C := CA _ f2
  clear h CA
  go_enter_defers Tryz.func17, Tryz.ntmps17
  go_upto_region 1 with fail
  generalize (w.alloc (.cells #[.pointer q] 46)).alloc (.cells #[.int .i64 0] 3) = W at *
  have c1 : W.cell? ⟨w.heap.size, 0, none⟩ = some (.pointer q) := at_cells b1 0 rfl
  have c2 : W.cell? ⟨w.heap.size + 1, 0, none⟩ = some (.int .i64 0) := at_cells b2 0 rfl
  have z2 : W.frozen? ⟨w.heap.size + 1, 0, none⟩ = false := by simp [World.frozen?, b2]
  have HG : Hid ((W.setCell ⟨w.heap.size + 1, 0, none⟩ (.int .i64 1)).heap[w.heap.size + 1]? = some (.cells #[.int .i64 1] 3 (0, 0))) := set_same (v := .int .i64 1) b2
  have HF : Hid (Fr [] w W) := f2
  clear b1 b2 f2
  go_wp2_with (go_at_call 58; refine C.mono ?_; rintro e w' ⟨rfl, hw⟩; rw [hw])
  have c3 := at_cells HG.out 0 rfl
  simp [bodyPostD, Leaves, settle, results, Tryz.results17, go_sem, c3]
  exact HF.out.setCell (.inr (by simp)) _

set_option maxRecDepth 100000 in
set_option maxHeartbeats 2000000 in
theorem no_depth {w : World} {q : Option Addr} (h : NoM w q) : Calls Tryz.prog 21 #[.pointer q] w fun e w' => e = .returned (.int .i64 0) ∧ Fr [] w w' := by
  have CA := h
  have FA : ∀ o, Fr [] w (w.alloc o) := fun o => (Fr.refl _ _).alloc _
  have HN : Hid (∀ o, (w.alloc o).heap[w.heap.size]? = some o) := fun o => heap_alloc_new w o
  have HFA : Hid (∀ o, Fr [] w (w.alloc o)) := FA
  clear h FA
  go_enter Tryz.func21, Tryz.ntmps21
  go_wp2_with (go_at_call 69; refine (CA _ (by first | exact Fr.refl _ _ | exact (Fr.refl _ _).alloc _ | exact ((Fr.refl _ _).alloc _).alloc _)).mono ?_; rintro e w1 ⟨rfl, hw⟩; rw [hw])
  go_ret
  exact ⟨rfl, by first | exact Fr.refl _ _ | exact HFA.out _⟩

set_option maxRecDepth 100000 in
set_option maxHeartbeats 2000000 in
theorem no_set {w : World} {q : Option Addr} (h : NoM w q) (l : Value) : Calls Tryz.prog 23 #[.pointer q, l] w fun e w' => e = .returned (.int .i64 3) ∧ Fr [] w w' := by
  have CA := h
  have FA : ∀ o, Fr [] w (w.alloc o) := fun o => (Fr.refl _ _).alloc _
  have HN : Hid (∀ o, (w.alloc o).heap[w.heap.size]? = some o) := fun o => heap_alloc_new w o
  have HFA : Hid (∀ o, Fr [] w (w.alloc o)) := FA
  clear h FA
  go_enter Tryz.func23, Tryz.ntmps23
  go_wp2_with (go_at_call 69; refine (CA _ (by first | exact Fr.refl _ _ | exact (Fr.refl _ _).alloc _ | exact ((Fr.refl _ _).alloc _).alloc _)).mono ?_; rintro e w1 ⟨rfl, hw⟩; rw [hw])
  go_ret
  exact ⟨rfl, by first | exact Fr.refl _ _ | exact HFA.out _⟩

set_option maxRecDepth 100000 in
set_option maxHeartbeats 2000000 in
theorem no_out {w : World} {q : Option Addr} (h : NoM w q) (k m : Int) : Calls Tryz.prog 29 #[.pointer q, .agg #[.int .i64 k, .int .i64 m]] w fun e w' => e = .returned (.int .i64 6) ∧ Fr [] w w' := by
  have CA := h
  have FA : ∀ o, Fr [] w (w.alloc o) := fun o => (Fr.refl _ _).alloc _
  have HN : Hid (∀ o, (w.alloc o).heap[w.heap.size]? = some o) := fun o => heap_alloc_new w o
  have HFA : Hid (∀ o, Fr [] w (w.alloc o)) := FA
  clear h FA
  go_enter Tryz.func29, Tryz.ntmps29
  go_wp2_with (go_at_call 69; refine (CA _ (by first | exact Fr.refl _ _ | exact (Fr.refl _ _).alloc _ | exact ((Fr.refl _ _).alloc _).alloc _)).mono ?_; rintro e w1 ⟨rfl, hw⟩; rw [hw])
  go_ret
  exact ⟨rfl, by first | exact Fr.refl _ _ | exact HFA.out _⟩

set_option maxRecDepth 100000 in
set_option maxHeartbeats 2000000 in
theorem no_reg {w : World} {q : Option Addr} (h : NoM w q) (n : Int) : Calls Tryz.prog 35 #[.pointer q, .int .i64 n] w fun e w' => e = .returned (.agg #[.int .i64 0, .int .i64 0]) ∧ Fr [] w w' := by
  have CA := h
  have FA : ∀ o, Fr [] w (w.alloc o) := fun o => (Fr.refl _ _).alloc _
  have HN : Hid (∀ o, (w.alloc o).heap[w.heap.size]? = some o) := fun o => heap_alloc_new w o
  have HFA : Hid (∀ o, Fr [] w (w.alloc o)) := FA
  clear h FA
  go_enter Tryz.func35, Tryz.ntmps35
  go_wp2_with (go_at_call 69; refine (CA _ (by first | exact Fr.refl _ _ | exact (Fr.refl _ _).alloc _ | exact ((Fr.refl _ _).alloc _).alloc _)).mono ?_; rintro e w1 ⟨rfl, hw⟩; rw [hw])
  exact bodyPost_ret (results_cell_row (by rfl) _ _ w.heap.size 33 _ (0, 0) _ rfl (HN.out _) Tryz.underlying33 rfl (by kernel_rfl)) rfl ⟨rfl, HFA.out _⟩

set_option maxRecDepth 100000 in
set_option maxHeartbeats 2000000 in
theorem no_func {w : World} {q : Option Addr} (h : NoM w q) (n : Int) : Calls Tryz.prog 36 #[.pointer q, .int .i64 n] w fun e w' => e = .returned (.agg #[.string ⟨#[]⟩, .int .i64 0, .int .i64 0, .slice none 0 0]) ∧ Fr [] w w' := by
  have CA := h
  have FA : ∀ o, Fr [] w (w.alloc o) := fun o => (Fr.refl _ _).alloc _
  have HN : Hid (∀ o, (w.alloc o).heap[w.heap.size]? = some o) := fun o => heap_alloc_new w o
  have HFA : Hid (∀ o, Fr [] w (w.alloc o)) := FA
  clear h FA
  go_enter Tryz.func36, Tryz.ntmps36
  go_wp2_with (go_at_call 69; refine (CA _ (by first | exact Fr.refl _ _ | exact (Fr.refl _ _).alloc _ | exact ((Fr.refl _ _).alloc _).alloc _)).mono ?_; rintro e w1 ⟨rfl, hw⟩; rw [hw])
  exact bodyPost_ret (results_cell_row (by rfl) _ _ w.heap.size 87 _ (0, 0) _ rfl (HN.out _) Tryz.underlying87 rfl (by kernel_rfl)) rfl ⟨rfl, HFA.out _⟩

set_option maxRecDepth 100000 in
set_option maxHeartbeats 2000000 in
theorem no_img {w : World} {q : Option Addr} (h : NoM w q) (k m : Int) : Calls Tryz.prog 31 #[.pointer q, .agg #[.int .i64 k, .int .i64 m]] w fun e w' => e = .returned (.tuple #[.agg #[.int .i64 0, .int .i64 0], .int .i64 6]) ∧ Fr [] w w' := by
  have f2 : Fr [] w ((w.alloc (.cells #[.int .i64 k, .int .i64 m] 33)).alloc (.cells #[.int .i64 0, .int .i64 0] 33)) := ((Fr.refl _ _).alloc _).alloc _
  have b2 := blk2 w (.cells #[.int .i64 k, .int .i64 m] 33) (.cells #[.int .i64 0, .int .i64 0] 33)
  have C := h _ f2
  have HB : Hid (((w.alloc (.cells #[.int .i64 k, .int .i64 m] 33)).alloc (.cells #[.int .i64 0, .int .i64 0] 33)).heap[w.heap.size + 1]? = some (.cells #[.int .i64 0, .int .i64 0] 33 (0, 0))) := b2
  have HF : Hid (Fr [] w ((w.alloc (.cells #[.int .i64 k, .int .i64 m] 33)).alloc (.cells #[.int .i64 0, .int .i64 0] 33))) := f2
  clear h f2 b2
  go_enter Tryz.func31, Tryz.ntmps31
  go_wp2_with (go_at_call 69; refine C.mono ?_; rintro e w1 ⟨rfl, hw⟩; rw [hw])
  have r0 := at_cells HB.out 0 rfl
  have r1 := at_cells HB.out 1 rfl
  exact bodyPost_ret (v := .tuple #[.agg #[.int .i64 0, .int .i64 0], .int .i64 6]) (by simp [results, Tryz.results31, go_sem, r0, r1]) rfl ⟨rfl, HF.out⟩

end Go.Proofs.YtkjkpkmmojchiaaGreatDoor

namespace Go.Proofs.YtkjkpkmmojchiaaGreatDoor
open Go.RowKit
set_option linter.unusedVariables false
set_option linter.unusedSimpArgs false

set_option maxRecDepth 100000 in
set_option maxHeartbeats 4000000 in
theorem code_any (w : World) : Calls Tryz.prog 37 #[] w fun e w' => ∃ N M, e = .returned (.agg #[.slice (some ⟨M, 0, none⟩) 1 1, .int .i64 0, .int .i64 0]) ∧ ExAt w' N M ∧ Fr [] w w' := by
  have f3 : ∀ a b c, Fr [] w (((w.alloc a).alloc b).alloc c) := fun a b c => (((Fr.refl _ _).alloc _).alloc _).alloc _
  have b1 : ∀ a b c, (((w.alloc a).alloc b).alloc c).heap[w.heap.size]? = some a := fun a b c => keep_alloc (keep_alloc (heap_alloc_new w _))
  have b2 : ∀ a b c, (((w.alloc a).alloc b).alloc c).heap[w.heap.size + 1]? = some b := fun a b c => keep_alloc (blk2 w _ _)
  have b3 : ∀ a b c, (((w.alloc a).alloc b).alloc c).heap[w.heap.size + 1 + 1]? = some c := fun a b c => new_alloc _ (by simp [World.size_alloc])
  have H1 : Hid (∀ a b c, (((w.alloc a).alloc b).alloc c).heap[w.heap.size]? = some a) := b1
  have H2 : Hid (∀ a b c, (((w.alloc a).alloc b).alloc c).heap[w.heap.size + 1]? = some b) := b2
  have H3 : Hid (∀ a b c, (((w.alloc a).alloc b).alloc c).heap[w.heap.size + 1 + 1]? = some c) := b3
  have HF : Hid (∀ a b c, Fr [] w (((w.alloc a).alloc b).alloc c)) := f3
  clear f3 b1 b2 b3
  go_enter Tryz.func37, Tryz.ntmps37
  go_wp2
  exact bodyPost_ret (results_cell_row (by rfl) _ _ w.heap.size 24 _ (0, 0) _ rfl (H1.out _ _ _) Tryz.underlying24 rfl (by kernel_rfl)) rfl ⟨w.heap.size + 1, w.heap.size + 1 + 1, rfl, ⟨H2.out _ _ _, H3.out _ _ _⟩, HF.out _ _ _⟩
end Go.Proofs.YtkjkpkmmojchiaaGreatDoor
