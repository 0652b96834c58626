/-
  Texts of the proof, in their order: BakA; conditions: as each says.
-/
import Derived.Test.YtnebhkglpggnlaaGreatDoorMgMJEI
namespace Go.Proofs.YtnebhkglpggnlaaGreatDoor
open Go.RowKit
set_option linter.unusedVariables false
set_option linter.unusedSimpArgs false

/-- What comes out of the first comes out of the second. -/
def Le (a b : R) : Prop := ∀ r, a = some r → b = some r
theorem Le.refl (a : R) : Le a a := fun _ h => h
theorem Le.bind {a b : R} {k l : List Nat → Nat → List PN → R} (h : Le a b) (hk : ∀ v j ms, Le (k v j ms) (l v j ms)) : Le (bindR a k) (bindR b l) := fun r e => by
  cases a with
  | none => cases e
  | some x =>
    rw [h x rfl]
    cases x with
    | error er => exact e
    | ok y => obtain ⟨v, j, ms⟩ := y; exact hk v j ms r e
theorem Le.want {ts : List Tok} {what : List UInt8} {i : Nat} {a b : R} (h : Le a b) : Le (wantR ts what i a) (wantR ts what i b) := fun r e => by
  unfold wantR at *
  split
  · rename_i c; rw [if_pos c] at e; exact h r e
  · rename_i c; rw [if_neg c] at e; exact e
theorem Le.ite {c : Prop} [Decidable c] {a b a' b' : R} (h : Le a a') (k : Le b b') : Le (if c then a else b) (if c then a' else b') := fun r e => by
  by_cases hc : c
  · rw [if_pos hc] at e ⊢; exact h r e
  · rw [if_neg hc] at e ⊢; exact k r e
theorem Le.opt {o : Option NT} {a b : NT → R} {c d : R} (h : ∀ n, Le (a n) (b n)) (k : Le c d) : Le (match o with | some n => a n | none => c) (match o with | some n => b n | none => d) := fun r e => by
  cases o with
  | none => exact k r e
  | some n => exact h n r e
theorem P_le (ts : List Tok) : ∀ (f g : Nat), f ≤ g → ∀ (nt : NT) (i : Nat) (ns : List PN), Le (P ts f nt i ns) (P ts g nt i ns) := by
  intro f
  induction f with
  | zero => intro g _ nt i ns r e; simp [P] at e
  | succ f ih =>
    intro g hg nt i ns
    obtain _ | g := g
    · omega
    have ih' := ih g (by omega)
    clear ih hg
    cases nt <;> simp only [P] <;> repeat' (first | exact ih' _ _ _ | exact Le.refl _ | (apply Le.want) | (apply Le.ite) | (apply Le.opt; intro n) | (refine Le.bind ?_ (fun v j ms => ?_)))
theorem P_mono {ts : List Tok} {f g : Nat} (h : f ≤ g) {nt : NT} {i : Nat} {ns : List PN} {r : Except Nat (List Nat × Nat × List PN)} (e : P ts f nt i ns = some r) : P ts g nt i ns = some r := P_le ts f g h nt i ns r e
end Go.Proofs.YtnebhkglpggnlaaGreatDoor
