/-
  Texts of the proof, in their order: ParR, ParS, ParT, ParU, ParV; conditions: as each says.
-/
import Derived.Lib.AppendIntMem
import Derived.Test.YtnebhkglpggnlaaGreatDoorMgEGMK
import Derived.Test.YtnebhkglpggnlaaGreatDoorMgHDMG
namespace Go.Proofs.YtnebhkglpggnlaaGreatDoor
open Go.RowKit Go.Shelf
set_option linter.unusedVariables false
set_option linter.unusedSimpArgs false

theorem fmt_fr {w w' : World} {k : Nat} {os : Array Obj} (h : w' = Go.Sort.grow (w.drewN k) os) : Fr [] w w' := by
  rw [h]
  exact Fr.ofBelow (Lib.below_grow _ w (Nat.le_refl _) k os)
theorem itoa_nat (n : Nat) : Lib.itoa (n : Int) = Lib.decDigits n := by
  unfold Lib.itoa
  rw [if_neg (by omega)]
  simp
end Go.Proofs.YtnebhkglpggnlaaGreatDoor
namespace Go.Proofs.YtnebhkglpggnlaaGreatDoor
open Go.RowKit Go.Shelf
attribute [local go_sem] Oper.semAt_some store_func
set_option linter.unusedVariables false
set_option linter.unusedSimpArgs false

/-- Tokens in a row. -/
def TC (W : World) (a : Option Addr) (acc : List Tok) : Prop := ∀ (p : Nat) (t : Tok), acc[p]? = some t → ∃ g, a = some ⟨g, 0, none⟩ ∧ W.cell? ⟨g, p * 5, none⟩ = some (.int .i64 (t.kind : Nat)) ∧ W.cell? ⟨g, p * 5 + 1, none⟩ = some (.string ⟨t.text.toArray⟩) ∧ W.cell? ⟨g, p * 5 + 2, none⟩ = some (.int .i64 (t.frm : Nat)) ∧ W.cell? ⟨g, p * 5 + 3, none⟩ = some (.int .i64 (t.to : Nat)) ∧ W.cell? ⟨g, p * 5 + 4, none⟩ = some (.int .i64 (t.n : Nat))

end Go.Proofs.YtnebhkglpggnlaaGreatDoor
namespace Go.Proofs.YtnebhkglpggnlaaGreatDoor
open Go.RowKit Go.Shelf
attribute [local go_sem] Oper.semAt_some store_func
set_option linter.unusedVariables false
set_option linter.unusedSimpArgs false

section
variable {ts : List Tok} {B pb j : Nat} {F : List Nat} {w : World} {sv : Value} {acc : List Tok} {bn : Nat} {rec : LoopState → Option Code → Loop} {st st' : LoopState} {F' F'' : List Nat} {n n' : Nat} {ns ns' : List PN} {W W' : World}
end

/-- A row of tokens beside a parser. -/
structure SR (B : Nat) (w : World) (F : List Nat) (wr : World) (sv : Value) (acc : List Tok) : Prop where
  on : wr.ownsRow B 51 5 sv acc.length (flatT acc)
  ni : ∀ k, sv.ownBlock = some k → k ∉ F
  lo : ∀ k, sv.ownBlock = some k → w.heap.size ≤ k
theorem SR.nil (B : Nat) (w : World) (F : List Nat) (wr : World) : SR B w F wr (.slice none 0 0) [] := ⟨World.ownsRow_nil _ _ _ _, fun k h => by simp [Value.ownBlock] at h, fun k h => by simp [Value.ownBlock] at h⟩
theorem SR.tr {B : Nat} {w : World} {F F' : List Nat} {wr wr' : World} {sv : Value} {acc : List Tok} (h : SR B w F wr sv acc) (t : Tr F wr F' wr') : SR B w F' wr' sv acc :=
  ⟨own_fr h.on t.f (fun k hk => h.ni k hk), fun k hk => t.notin (h.ni k hk) (h.on.lt k hk).2, h.lo⟩
theorem SR.snoc {B : Nat} {w : World} {F : List Nat} {wr w3 : World} {sv v1 : Value} {acc : List Tok} {t : Tok} (h : SR B w F wr sv acc) (hw : w.heap.size ≤ wr.heap.size) (hF : ∀ k ∈ F, k < wr.heap.size) (ho : w3.ownsRow B 51 5 v1 (acc.length + 1) (flatT acc ++ (tokA t).toList)) (hl : v1.ownBlock = sv.ownBlock ∨ v1.ownBlock = some (wr.heap.size + 1)) : SR B w F w3 v1 (acc ++ [t]) := by
  refine ⟨?_, fun k hk => ?_, fun k hk => ?_⟩
  · rw [flatT_append, flatT_one]
    simpa using ho
  · rcases hl with e | e
    · exact h.ni k (by rw [← e]; exact hk)
    · rw [e] at hk
      simp at hk
      exact fun hm => by have := hF k hm; omega
  · rcases hl with e | e
    · exact h.lo k (by rw [← e]; exact hk)
    · rw [e] at hk
      simp at hk
      omega
theorem own_tc {wr : World} {B c : Nat} {a : Option Addr} {acc : List Tok} (h : wr.ownsRow B 51 5 (.slice a acc.length c) acc.length (flatT acc)) : TC wr a acc := fun p t hp => by
  have hlt := (List.getElem?_eq_some_iff.1 hp).1
  rcases h.2 with ⟨_, e0⟩ | ⟨g, cap, cur, e, hb, hg, hc, hm, hs, ht⟩
  · omega
  · injection e with e1 _ _
    have cell : ∀ j u, j < acc.length * 5 → (flatT acc)[j]? = some u → wr.cell? ⟨g, j, none⟩ = some u := fun j u hj hu => by
      have : (cur.toList.take (acc.length * 5))[j]? = (flatT acc)[j]? := by rw [ht]
      rw [List.getElem?_take_of_lt hj, hu] at this
      simp only [World.cell?, hg]
      simpa using this
    exact ⟨g, e1, cell (p * 5 + 0) _ (by omega) (flatT_get hp 0 (by decide)), cell (p * 5 + 1) _ (by omega) (flatT_get hp 1 (by decide)), cell (p * 5 + 2) _ (by omega) (flatT_get hp 2 (by decide)), cell (p * 5 + 3) _ (by omega) (flatT_get hp 3 (by decide)), cell (p * 5 + 4) _ (by omega) (flatT_get hp 4 (by decide))⟩
theorem laySg_snoc : ∀ (l : List Tok) (t : Tok) (n : Nat) (ns : List PN), laySg (l ++ [t]) n ns = ((laySg l n ns).2.length, (laySg l n ns).2 ++ [⟨18, t.text, [(laySg l n ns).1], t.frm⟩])
  | [], t, n, ns => rfl
  | x :: l, t, n, ns => by
    simp only [List.cons_append, laySg]
    exact laySg_snoc l t _ _

end Go.Proofs.YtnebhkglpggnlaaGreatDoor

namespace Go.Proofs.YtnebhkglpggnlaaGreatDoor
open Go

end Go.Proofs.YtnebhkglpggnlaaGreatDoor
namespace Go.Proofs.YtnebhkglpggnlaaGreatDoor
open Go.RowKit
set_option linter.unusedVariables false
set_option linter.unusedSimpArgs false
def EM (l : List (List UInt8 × Nat)) (n : Nat) : Array MapEntry := (EsR (l.take n) 0).toArray

end Go.Proofs.YtnebhkglpggnlaaGreatDoor
