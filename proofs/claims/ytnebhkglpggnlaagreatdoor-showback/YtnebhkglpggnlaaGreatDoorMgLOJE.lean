/-
  Texts of the proof, in their order: LexL; conditions: as each says.
-/
import Derived.Deep.LoopGhost
import Derived.Deep.MidRow
import Derived.WalkMore
import Derived.RegionTactic
import Derived.ChangeAlike
import Derived.Test.YtnebhkglpggnlaaGreatDoorMgCHLI
namespace Go.Proofs.YtnebhkglpggnlaaGreatDoor
open Go.RowKit

def sgn (s : ByteArray) : Nat := signL s.data.toList
/-- The signs as a value; the one at a place. -/
def sgB (k : Nat) : ByteArray := ⟨(signs.getD k []).toArray⟩
def sgV : List Value := signs.map fun l => .string ⟨l.toArray⟩
theorem sgV_at (k : Nat) (h : k < 26) : sgV[k]? = some (.string (sgB k)) := by
  have hl : signs.length = 26 := rfl
  unfold sgV sgB
  rw [List.getElem?_map, List.getElem?_eq_getElem (by omega)]
  simp [List.getD, List.getElem?_eq_getElem (l := signs) (i := k) (by omega)]
theorem find_getD {L : List (List UInt8)} {p : List UInt8 → Bool} : ∀ k, k < L.length → (∀ j, j < k → p (L.getD j []) = false) → p (L.getD k []) = true → L.find? p = some (L.getD k []) := by
  induction L with
  | nil => intro k h; simp at h
  | cons x L ih =>
    intro k h hno hp
    cases k with
    | zero => simp at hp; simp [hp]
    | succ k =>
      have h0 := hno 0 (by omega)
      simp at h0
      rw [List.find?_cons, h0]
      exact ih k (by simpa using h) (fun j hj => by have := hno (j + 1) (by omega); simpa using this) (by simpa using hp)
theorem sign_found {l : List UInt8} {k : Nat} (h : k < 26) (hno : ∀ j, j < k → (signs.getD j []).isPrefixOf l = false) (hp : (signs.getD k []).isPrefixOf l = true) : signL l = (signs.getD k []).length := by
  unfold signL
  have hl : k < signs.length := by rw [show signs.length = 26 from rfl]; exact h
  rw [find_getD (p := fun g => g.isPrefixOf l) k hl hno hp]
theorem sign_none {l : List UInt8} (hno : ∀ j, j < 26 → (signs.getD j []).isPrefixOf l = false) : signL l = 0 := by
  unfold signL
  have : signs.find? (fun g => g.isPrefixOf l) = none := by
    rw [List.find?_eq_none]
    intro x hx
    obtain ⟨j, hj, e⟩ := List.getElem_of_mem hx
    have := hno j hj
    rw [List.getD, List.getElem?_eq_getElem hj, Option.getD_some, e] at this
    rw [this]; simp
  rw [this]
theorem isPrefix_iff (g l : List UInt8) : g.isPrefixOf l = true ↔ l.take g.length = g := by
  rw [List.isPrefixOf_iff_prefix, List.prefix_iff_eq_take]
  exact eq_comm

end Go.Proofs.YtnebhkglpggnlaaGreatDoor
