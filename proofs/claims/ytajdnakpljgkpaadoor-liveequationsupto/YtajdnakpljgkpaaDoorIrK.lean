/-
  Where a function may go on behind one of its instructions, by the program; conditions: the function lies as told.
-/
import Derived.Test.YtajdnakpljgkpaaDoorIrJ
namespace Go.Proofs.YtajdnakpljgkpaaDoor
open Go.RowKit
set_option linter.unusedVariables false
set_option linter.unusedSimpArgs false

def nextC (n : Nat) (op k at_ : Int) : List Int :=
  if at_ < 0 ∨ (n : Int) ≤ at_ then [] else if op = 21 then dd2 (srt2 (keepN n [k])) else if op = 22 then dd2 (srt2 (keepN n [at_ + 1, k])) else if op = 24 ∨ op = 25 then [] else dd2 (srt2 (keepN n [at_ + 1]))
def opAt (L : List In) (i : Nat) : Int := match L[i]? with | some x => x.op | none => 0
def kAt (L : List In) (i : Nat) : Int := match L[i]? with | some x => x.k | none => 0
def nextL (L : List In) (at_ : Int) : List Int := nextC L.length (opAt L at_.toNat) (kAt L at_.toNat) at_
theorem one2 (W : World) (z : Int) (g : Nat) (hg : g = W.heap.size) : KAt (W.alloc (.cells #[.int .i64 z] 2)).heap.size (W.alloc (.cells #[.int .i64 z] 2)) (some ⟨g, 0, none⟩) [z] := fun j k hj => by
  subst hg
  refine ⟨W.heap.size, 0, rfl, by simp, ?_⟩
  refine at_cells (heap_alloc_new W _) (0 + j) ?_
  have hl := (List.getElem?_eq_some_iff.1 hj).1
  simp at hl
  subst hl
  simp at hj
  subst hj
  rfl
theorem two2 (W : World) (y z : Int) (g : Nat) (hg : g = W.heap.size) : KAt (W.alloc (.cells #[.int .i64 y, .int .i64 z] 2)).heap.size (W.alloc (.cells #[.int .i64 y, .int .i64 z] 2)) (some ⟨g, 0, none⟩) [y, z] := fun j k hj => by
  subst hg
  refine ⟨W.heap.size, 0, rfl, by simp, ?_⟩
  refine at_cells (heap_alloc_new W _) (0 + j) ?_
  match j, hj with
  | 0, hj => simp at hj; subst hj; rfl
  | 1, hj => simp at hj; subst hj; rfl

set_option maxRecDepth 100000 in
set_option maxHeartbeats 4000000 in
theorem next_any (B : Nat) (f : Fu) (at_ : Int) (w : World) (hf : FuOk B w f) (hB : B ≤ w.heap.size) :
    Calls Tryd.prog 26 #[.agg f.arr, .int .i64 at_] w fun e w' => ∃ v, e = .returned v ∧ OR w' w.heap.size v (nextL f.code at_) ∧ Fr [] w w' := by
  have F0 : Fr [] w (w.alloc (.cells f.arr 24)) := (Fr.refl _ _).alloc _
  have bx : (w.alloc (.cells f.arr 24)).heap[w.heap.size]? = some (.cells f.arr 24 (0, 0)) := heap_alloc_new w _
  have hcl := hf.kl
  have hclI : (f.code.length : Int) ≤ 20000000000000 := by omega
  have hkc := hf.kc
  have HF0 : Hid (Fr [] w (w.alloc (.cells f.arr 24))) := F0
  by_cases h0 : at_ < 0
  · have HN : Hid (nextL f.code at_ = []) := by unfold Hid nextL nextC; rw [if_pos (.inl h0)]
    unfold Fu.arr at *
    go_enter Tryd.func26, Tryd.ntmps26
    go_wp2
    go_ret
    exact ⟨_, rfl, by rw [HN.out]; exact OR.nil _ _, HF0.out⟩
  · by_cases h1 : (f.code.length : Int) ≤ at_
    · have HN : Hid (nextL f.code at_ = []) := by unfold Hid nextL nextC; rw [if_pos (.inr h1)]
      unfold Fu.arr at *
      go_enter Tryd.func26, Tryd.ntmps26
      go_wp2
      go_ret
      exact ⟨_, rfl, by rw [HN.out]; exact OR.nil _ _, HF0.out⟩
    · obtain ⟨p, rfl⟩ := Int.eq_ofNat_of_zero_le (show 0 ≤ at_ by omega)
      have hp : p < f.code.length := by omega
      have hx : f.code[p]? = some f.code[p] := List.getElem?_eq_getElem hp
      generalize f.code[p] = x at hx
      obtain ⟨b, o, hca, hb, hI⟩ := (hf.k.fr F0 (by simp)) p x hx
      have HN : Hid (nextL f.code (p : Int) = nextC f.code.length x.op x.k p) := by
        unfold Hid nextL opAt kAt
        simp only [Int.toNat_natCast, hx]
      have HC : Hid (∀ op k, nextC f.code.length op k p = if op = 21 then dd2 (srt2 (keepN f.code.length [k])) else if op = 22 then dd2 (srt2 (keepN f.code.length [(p : Int) + 1, k])) else if op = 24 ∨ op = 25 then [] else dd2 (srt2 (keepN f.code.length [(p : Int) + 1]))) := fun op k => by
        unfold nextC
        rw [if_neg (by omega)]
      have HP := fun (ns : List Int) (hl : ns.length ≤ 2) (B' : Nat) (a : Option Addr) (c : Nat) (w' : World) (hk : KAt B' w' a ns) (hB' : B' ≤ w'.heap.size) => places_any f ns hl B' a c w' hk hB' hcl
      have hpI : (p : Int) < f.code.length := by omega
      clear hx hf h0 h1
      unfold Fu.arr at *
      generalize hL : f.code.length = n at *
      rw [hca] at HP F0 bx HF0
      go_enter Tryd.func26, Tryd.ntmps26
      rw [hca]
      have i0 := hI.c0
      have i1 := hI.c1
      have i2 := hI.c2
      have i3 := hI.c3
      have i4 := hI.c4
      have i5 := hI.c5
      have hbn : b ≠ w.heap.size := by omega
      clear hI hL
      rw [hca] at i0 i1 i2 i3 i4 i5
      have q3 := at_cells bx 3 rfl
      obtain ⟨xop, xa, xb, xc, xk, xla, xlc, xl⟩ := x
      simp only at *
      by_cases e1 : xop = 21
      · subst e1
        go_wp2_with fail
        refine Calls.mono (HP [xk] (by simp) _ _ 1 _ ?_ (Nat.le_refl _)) ?_
        · exact one2 _ _ _ (by simp only [World.size_alloc])
        rintro e w9 ⟨v, rfl, ho, f9⟩
        have FF : Hid (Fr [] w w9) := (((HF0.out.alloc _).alloc _).trans f9)
        have HO : Hid (OR w9 w.heap.size v _) := own_low ho (by have := (((Fr.refl [] w).alloc (.cells #[.string f.name, .int .i64 f.ps, .int .i64 f.rs, .slice (some ⟨b, o, none⟩) n f.cc] 24)).alloc (.cells #[.int .i64 21, .int .i64 xa, .int .i64 xb, .int .i64 xc, .int .i64 xk, .slice xla xl.length xlc] 59)).size; simp only [World.size_alloc] at this ⊢; omega)
        clear ho HP
        go_wp2
        go_ret
        refine ⟨v, rfl, ?_, FF.out⟩
        rw [HN.out, HC.out]
        exact HO.out
      · have d1 : (xop == 21) = false := beq_int_false e1
        by_cases e2 : xop = 22
        · subst e2
          go_wp2_with fail
          refine Calls.mono (HP [(p : Int) + 1, xk] (by simp) _ _ 2 _ ?_ (Nat.le_refl _)) ?_
          · exact two2 _ _ _ _ (by simp only [World.size_alloc])
          rintro e w9 ⟨v, rfl, ho, f9⟩
          have FF : Hid (Fr [] w w9) := (((HF0.out.alloc _).alloc _).trans f9)
          have HO : Hid (OR w9 w.heap.size v _) := own_low ho (by have := (((Fr.refl [] w).alloc (.cells #[.string f.name, .int .i64 f.ps, .int .i64 f.rs, .slice (some ⟨b, o, none⟩) n f.cc] 24)).alloc (.cells #[.int .i64 22, .int .i64 xa, .int .i64 xb, .int .i64 xc, .int .i64 xk, .slice xla xl.length xlc] 59)).size; simp only [World.size_alloc] at this ⊢; omega)
          clear ho HP
          go_wp2
          go_ret
          refine ⟨v, rfl, ?_, FF.out⟩
          rw [HN.out, HC.out]
          exact HO.out
        · have d2 : (xop == 22) = false := beq_int_false e2
          have HR : Hid (nextC n xop xk p = if xop = 24 ∨ xop = 25 then [] else dd2 (srt2 (keepN n [(p : Int) + 1]))) := by unfold Hid; rw [HC.out, if_neg e1, if_neg e2]
          clear HC e1 e2
          by_cases e3 : xop = 24
          · subst e3
            have HE : Hid (nextL f.code (p : Int) = []) := by unfold Hid; rw [HN.out, HR.out, if_pos (.inl rfl)]
            clear HP HN HR
            go_wp2
            go_ret
            exact ⟨_, rfl, by rw [HE.out]; exact OR.nil _ _, HF0.out.alloc _⟩
          · have d3 : (xop == 24) = false := beq_int_false e3
            by_cases e4 : xop = 25
            · subst e4
              have HE : Hid (nextL f.code (p : Int) = []) := by unfold Hid; rw [HN.out, HR.out, if_pos (.inr rfl)]
              clear HP HN HR
              go_wp2
              go_ret
              exact ⟨_, rfl, by rw [HE.out]; exact OR.nil _ _, HF0.out.alloc _⟩
            · have d4 : (xop == 25) = false := beq_int_false e4
              have HQ : Hid (nextC n xop xk p = dd2 (srt2 (keepN n [(p : Int) + 1]))) := by unfold Hid; rw [HR.out, if_neg (by omega)]
              clear HR e3 e4
              go_wp2_with fail
              refine Calls.mono (HP [(p : Int) + 1] (by simp) _ _ 1 _ ?_ (Nat.le_refl _)) ?_
              · exact one2 _ _ _ (by simp only [World.size_alloc])
              rintro e w9 ⟨v, rfl, ho, f9⟩
              have FF : Hid (Fr [] w w9) := (((HF0.out.alloc _).alloc _).trans f9)
              have HO : Hid (OR w9 w.heap.size v _) := own_low ho (by have := (((Fr.refl [] w).alloc (.cells #[.string f.name, .int .i64 f.ps, .int .i64 f.rs, .slice (some ⟨b, o, none⟩) n f.cc] 24)).alloc (.cells #[.int .i64 xop, .int .i64 xa, .int .i64 xb, .int .i64 xc, .int .i64 xk, .slice xla xl.length xlc] 59)).size; simp only [World.size_alloc] at this ⊢; omega)
              clear ho HP
              go_wp2
              go_ret
              refine ⟨v, rfl, ?_, FF.out⟩
              rw [HN.out, HQ.out]
              exact HO.out
end Go.Proofs.YtajdnakpljgkpaaDoor
