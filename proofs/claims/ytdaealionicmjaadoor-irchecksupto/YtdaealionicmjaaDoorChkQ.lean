/-
  The document takes just the code that the program takes, purely; no condition.
-/
import Derived.Test.YtdaealionicmjaaDoorChkP
import Derived.Test.YtdaealionicmjaaDoorIrU
namespace Go.Proofs.YtdaealionicmjaaDoor
open Go.RowKit
set_option linter.unusedVariables false
set_option linter.unusedSimpArgs false

theorem listR_all (f : Fu) (l : List Int) : listR f l = l.all (inR f) := by
  unfold listR
  congr 1
  funext z
  simp [inR, Bool.decide_and]
theorem ksEq_nil (l : List Int) : ksEq l [] = decide (l.length = 0) := by
  cases l with
  | nil => rfl
  | cons a r => simp [ksEq]

set_option maxHeartbeats 4000000 in
theorem ins_eq (F : List Fu) (mg : Int) (f : Fu) (p : Nat) (x : In) (seen : Int → Bool) (s : List Int) (hs : seen x.k = heldL s x.k) (hp : p < f.code.length) :
    (insOk F mg f p x seen && (decide (p ≠ f.code.length - 1) || endsL x.op)) = (insR F mg f p x && !(x.op == 27 && heldL s x.k)) := by
  obtain ⟨op, a, b, c, k, la, lc, l⟩ := x
  have hpe : ((p : Int) == (f.code.length : Int) - 1) = !decide (p ≠ f.code.length - 1) := by
    by_cases h : p = f.code.length - 1
    · have : (p : Int) = (f.code.length : Int) - 1 := by omega
      simp [h, this]
      omega
    · have : ¬ (p : Int) = (f.code.length : Int) - 1 := by omega
      simp [h, this]
  simp only at hs
  by_cases hr : 1 ≤ op ∧ op ≤ 28
  · have hc : op = 1 ∨ op = 2 ∨ op = 3 ∨ op = 4 ∨ op = 5 ∨ op = 6 ∨ op = 7 ∨ op = 8 ∨ op = 9 ∨ op = 10 ∨ op = 11 ∨ op = 12 ∨ op = 13 ∨ op = 14 ∨ op = 15 ∨ op = 16 ∨ op = 17 ∨ op = 18 ∨ op = 19 ∨ op = 20 ∨ op = 21 ∨ op = 22 ∨ op = 23 ∨ op = 24 ∨ op = 25 ∨ op = 26 ∨ op = 27 ∨ op = 28 := by omega
    clear hr
    unfold insR lastR
    rw [hpe]
    generalize decide (p ≠ f.code.length - 1) = lst
    rcases hc with rfl | rfl | rfl | rfl | rfl | rfl | rfl | rfl | rfl | rfl | rfl | rfl | rfl | rfl | rfl | rfl | rfl | rfl | rfl | rfl | rfl | rfl | rfl | rfl | rfl | rfl | rfl | rfl
    all_goals
      rw [Bool.eq_iff_iff]
      simp [insOk, listR_all, rowN, fT, rfT, rT, wT, rnT, fieldsT, rfieldsT, readsT, writesT, rnamesT, namesT, txt, regsL, regs1, hasL, abcR, oneR, fieldL, woL, wo1, bareI, inEq, ksEq_nil, numOk, numR, endsL, inR, mergeOk, hs]
    all_goals grind
  · have h0 : rowN op = 0 := by unfold rowN; rw [if_neg hr]
    have e1 : insOk F mg f p ⟨op, a, b, c, k, la, lc, l⟩ seen = false := by unfold insOk; simp [h0]
    have e2 : insR F mg f p ⟨op, a, b, c, k, la, lc, l⟩ = false := by
      unfold insR rnT
      have : (txt (rnamesT.getD 0 [])).toList = [] := by rw [Lib.toList_data, txt_list]; rfl
      simp only [h0, this]
      rfl
    rw [e1, e2]
    rfl

theorem held_next (seen : Int → Bool) (s : List Int) (op k : Int) (h : ∀ j, seen j = heldL s j) (j : Int) : nSeen op k seen j = heldL (if op = 27 then s ++ [k] else s) j := by
  unfold nSeen
  by_cases ho : op = 27
  · simp only [ho, if_true, addS]
    rw [h j]
    unfold heldL
    rw [List.any_append, Bool.or_comm]
    congr 1
    by_cases hj : j = k
    · simp [hj]
    · have : ¬ k = j := fun e => hj e.symm
      simp [hj, this]
  · simp only [ho, if_false]
    exact h j

theorem code_eq (F : List Fu) (mg : Int) (f : Fu) : ∀ (L : List In) (p : Nat) (seen : Int → Bool) (cnt : Nat) (s : List Int), f.code.drop p = L → p < f.code.length → (∀ j, seen j = heldL s j) →
    match codeL F mg f L p seen cnt with
    | .error q => codeR F mg f L p s = .error q
    | .ok (t, c) => if endsL (opL f.code (f.code.length - 1)) then ∃ s', codeR F mg f L p s = .ok s' ∧ ∀ j, t j = heldL s' j else codeR F mg f L p s = .error (f.code.length - 1)
  | [], p, seen, cnt, s, hL, hp, hs => by
    have := List.drop_eq_nil_iff.1 hL
    omega
  | x :: r, p, seen, cnt, s, hL, hp, hs => by
    rw [List.drop_eq_getElem_cons hp] at hL
    injection hL with hx hr
    have E := ins_eq F mg f p x seen s (hs _) hp
    have hn := held_next seen s x.op x.k hs
    unfold codeL codeR
    cases hi : insOk F mg f p x seen with
    | false =>
      rw [hi, Bool.false_and] at E
      rw [← E]
      rfl
    | true =>
      rw [hi, Bool.true_and] at E
      simp only [if_true]
      by_cases hl : p = f.code.length - 1
      · have hre : r = [] := by rw [← hr]; exact List.drop_eq_nil_iff.2 (by omega)
        have hop : opL f.code (f.code.length - 1) = x.op := by unfold opL; rw [← hl, List.getElem?_eq_getElem hp, hx]
        rw [hop]
        simp only [hl, ne_eq, not_true_eq_false, decide_false, Bool.false_or] at E
        rw [← hl] at E
        rw [← E]
        subst hre
        cases he : endsL x.op with
        | true => exact ⟨_, rfl, hn⟩
        | false => simp [codeL, hl]
      · have hd : decide (p ≠ f.code.length - 1) = true := by simpa using hl
        rw [hd, Bool.true_or] at E
        rw [← E]
        simp only [if_true]
        exact code_eq F mg f r (p + 1) _ _ _ hr (by omega) hn
theorem fun_eq (F : List Fu) (mg : Int) (f : Fu) (seen : Int → Bool) (cnt : Nat) (s : List Int) (hs : ∀ j, seen j = heldL s j) :
    match funL F mg f seen cnt with
    | .error q => funR F mg f s = .error q
    | .ok (t, c) => ∃ s', funR F mg f s = .ok s' ∧ ∀ j, t j = heldL s' j := by
  unfold funL funR
  by_cases hh : 0 ≤ f.ps ∧ f.ps ≤ f.rs ∧ f.rs ≤ 1000 ∧ 1 ≤ f.code.length ∧ f.code.length ≤ 100000
  · rw [if_pos hh, if_pos hh]
    have E := code_eq F mg f f.code 0 seen cnt s rfl (by omega) hs
    cases hc : codeL F mg f f.code 0 seen cnt with
    | error q => rw [hc] at E; exact E
    | ok t =>
      obtain ⟨t, c⟩ := t
      rw [hc] at E
      simp only at E ⊢
      cases he : endsL (opL f.code (f.code.length - 1)) with
      | true => rw [he] at E; simpa using E
      | false => rw [he] at E; simpa using E
  · rw [if_neg hh, if_neg hh]
theorem funs_eq (F : List Fu) (mg : Int) : ∀ (L : List Fu) (n : Nat) (seen : Int → Bool) (cnt : Nat) (s : List Int), (∀ j, seen j = heldL s j) → funsL F mg L n seen cnt = funsR F mg L n s
  | [], _, _, _, _, _ => rfl
  | f :: r, n, seen, cnt, s, hs => by
    have E := fun_eq F mg f seen cnt s hs
    unfold funsL funsR
    cases hf : funL F mg f seen cnt with
    | error q =>
      rw [hf] at E
      simp only at E
      rw [E]
    | ok t =>
      obtain ⟨t, c⟩ := t
      rw [hf] at E
      obtain ⟨s', e1, e2⟩ := E
      rw [e1]
      exact funs_eq F mg r _ _ _ _ e2
theorem check_eq (F : List Fu) (mn mg : Int) : checkO F mn mg = checkR F mn mg := by
  unfold checkO checkR wholeL wholeR
  rw [funs_eq F mg F 0 (fun _ => false) 0 [] (fun j => rfl)]
  rfl
end Go.Proofs.YtdaealionicmjaaDoor
