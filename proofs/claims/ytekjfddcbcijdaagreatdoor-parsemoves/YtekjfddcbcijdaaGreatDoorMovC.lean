/-
  Lists of nodes that are alike, places aside; how what is read lies in memory; no condition.
-/
import Derived.Test.YtekjfddcbcijdaaGreatDoorMovB
namespace Go.Proofs.YtekjfddcbcijdaaGreatDoor
open Go.RowKit
set_option linter.unusedVariables false
set_option linter.unusedSimpArgs false

def ksEq (a b : List Int) : Bool := a == b
def txEq (s t : ByteArray) : Bool := s.toList == t.toList
def ndEq (x y : Nd) : Bool := x.kind == y.kind && txEq x.text y.text && ksEq x.ks y.ks
def sameL : List Nd → List Nd → Bool
  | [], [] => true
  | x :: a, y :: b => ndEq x y && sameL a b
  | _, _ => false
theorem same_len : ∀ (a b : List Nd), a.length ≠ b.length → sameL a b = false
  | [], [], h => by simp at h
  | [], _ :: _, _ => rfl
  | _ :: _, [], _ => rfl
  | x :: a, y :: b, h => by rw [sameL, same_len a b (by simpa using h), Bool.and_false]
theorem same_at {a b : List Nd} {p : Nat} {x y : Nd} (hx : a[p]? = some x) (hy : b[p]? = some y) : sameL (a.drop p) (b.drop p) = (ndEq x y && sameL (a.drop (p + 1)) (b.drop (p + 1))) := by
  obtain ⟨h1, e1⟩ := List.getElem?_eq_some_iff.1 hx
  obtain ⟨h2, e2⟩ := List.getElem?_eq_some_iff.1 hy
  rw [List.drop_eq_getElem_cons h1, List.drop_eq_getElem_cons h2, e1, e2, sameL]
theorem ks_at {a b : List Int} {p : Nat} {x y : Int} (hx : a[p]? = some x) (hy : b[p]? = some y) : ksEq (a.drop p) (b.drop p) = ((x == y) && ksEq (a.drop (p + 1)) (b.drop (p + 1))) := by
  obtain ⟨h1, e1⟩ := List.getElem?_eq_some_iff.1 hx
  obtain ⟨h2, e2⟩ := List.getElem?_eq_some_iff.1 hy
  unfold ksEq
  rw [List.drop_eq_getElem_cons h1, List.drop_eq_getElem_cons h2, e1, e2, List.cons_beq_cons]
theorem blk_new (w : World) (o : Obj) : (w.alloc o).heap[w.heap.size]? = some o := heap_alloc_new w o
theorem blk_old {w : World} {k : Nat} {o p : Obj} (h : w.heap[k]? = some o) : (w.alloc p).heap[k]? = some o := (Below.heap_alloc _ _ _ (Array.getElem?_eq_some_iff.1 h).1).trans h
theorem prg_len {s : ByteArray} {ms : List PN} (h : prgL s = .ok ms) : ms.length ≤ 50000 := by
  rcases hsc : sc s 0 with ⟨ts, _ | ⟨p, c⟩⟩
  · rw [prgL_after hsc rfl] at h
    unfold afterL at h
    split at h
    · cases h
    · split at h
      · cases h
      · split at h
        · cases h
        · split at h
          · cases h
          · cases h
            omega
  · unfold prgL at h
    rw [hsc] at h
    cases h
theorem prg_err_ne {s : ByteArray} {p c : Nat} (h : prgL s = .error (p, c)) : c ≠ 0 ∧ c ≤ 60 := by
  rcases hsc : sc s 0 with ⟨ts, _ | ⟨p', c'⟩⟩
  · rw [prgL_after hsc rfl] at h
    unfold afterL at h
    split at h
    · cases h; decide
    · split at h
      · cases h; decide
      · split at h
        · cases h; decide
        · split at h
          · cases h; decide
          · cases h
  · unfold prgL at h
    rw [hsc] at h
    cases h
    have h1 := scanL_err (s.size + 1) 0 (s.data.toList.drop 0) (p, c) (show (sc s 0).2 = _ by rw [hsc])
    simp only at h1
    omega
/-- A list of nodes as it lies. -/
theorem mv_nodes {s : ByteArray} {w w' : World} {ms : List PN} (hp : prgL s = .ok ms) {e : Ending} (h : PrgOut s w w' e) : ∃ (a : Option Addr) (n c : Nat) (L : List MN), e = .returned (.tuple #[.slice a n c, .int .i64 0, .int .i64 0]) ∧ L.length = n ∧ n ≤ 50000 ∧ NAt w'.heap.size w' a (L.map ndM) ∧ L.map MN.x = ms := by
  unfold PrgOut at h
  rw [hp] at h
  obtain ⟨nv, L, F', rfl, hL, hown, hob, hkr, hF⟩ := h
  obtain ⟨a, c, rfl, -⟩ := own_slice hown
  have hl : L.length = ms.length := by rw [← hL]; simp
  exact ⟨a, L.length, c, L, rfl, rfl, by rw [hl]; exact prg_len hp, nodes_at hown hkr (fun j hj => (hF j hj).2), hL⟩
theorem same_moved (d : Nat) : ∀ (L M : List MN), M.map MN.x = (L.map MN.x).map (shN d) → sameL (L.map ndM) (M.map ndM) = true
  | [], [], _ => rfl
  | [], _ :: _, h => by simp at h
  | _ :: _, [], h => by simp at h
  | x :: L, y :: M, h => by
    simp only [List.map_cons, List.cons.injEq] at h
    simp only [List.map_cons, sameL, same_moved d L M h.2, Bool.and_true]
    simp [ndEq, ndM, h.1, shN, txEq, ksEq]
theorem moved_at {d : Nat} {L M : List MN} (h : M.map MN.x = (L.map MN.x).map (shN d)) {i : Nat} {x : MN} (hx : L[i]? = some x) : ∃ y, M[i]? = some y ∧ y.x = shN d x.x := by
  have e : (M.map MN.x)[i]? = some (shN d x.x) := by rw [h]; simp [hx]
  rw [List.getElem?_map] at e
  obtain ⟨y, h1, h2⟩ := Option.map_eq_some_iff.1 e
  exact ⟨y, h1, h2⟩
end Go.Proofs.YtekjfddcbcijdaaGreatDoor
