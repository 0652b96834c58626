/-
  ProfileFull returns true, told of values and worlds; conditions: the numbers are of 64 bits and lie as told.
-/
import Derived.Test.YtjeddgjndpdhoaaCntW
import Derived.OwnWalk
namespace Go.Proofs.Ytjeddgjndpdhoaa
open Go.RowKit Go.Shelf Go.Maps Go.ChangeShapes
set_option linter.unusedVariables false
set_option linter.unusedSimpArgs false

def keyN (n : Int) : Ky := (n, 0, 0, 0, 0, 0, 0, 0, 0, 0)
theorem kw_keyN {n : Int} (h : (Lit.int .i64 n).wf = true) : kw (keyN n) := by
  intro x hx
  simp [keyN, kl0] at hx
  rcases hx with rfl | rfl
  · exact h
  · rfl
def upTo (j : Nat) : List Int := (List.range j).map (fun i : Nat => (i : Int))
theorem upTo_succ (j : Nat) : upTo (j + 1) = upTo j ++ [(j : Int)] := by simp [upTo, List.range_succ]
theorem upTo_len (j : Nat) : (upTo j).length = j := by simp [upTo]
theorem wf_small {n : Int} (h : 0 ≤ n) (h2 : n ≤ 1000000) : (Lit.int .i64 n).wf = true := by
  have e1 : IntKind.i64.min = -9223372036854775808 := by rfl
  have e2 : IntKind.i64.max = 9223372036854775807 := by rfl
  simp [Lit.wf, e1, e2]; omega
def allL (ag : List Int) (m : Nat) : List Int := upTo 1000 ++ ag ++ (upTo m).map (fun i => 5000 + i)
theorem allL_succ (ag : List Int) (m : Nat) : allL ag (m + 1) = allL ag m ++ [5000 + (m : Int)] := by
  unfold allL
  rw [upTo_succ m, List.map_append, ← List.append_assoc]
  rfl
theorem allL_len (ag : List Int) (m : Nat) : (allL ag m).length = 1000 + ag.length + m := by simp [allL, upTo_len]; omega
theorem allL_wf {ag : List Int} (h : ∀ y ∈ ag, (Lit.int .i64 y).wf = true) {m : Nat} (hm : m ≤ 20) : ∀ y ∈ allL ag m, (Lit.int .i64 y).wf = true := by
  intro y hy
  simp only [allL, upTo, List.mem_append, List.mem_map, List.mem_range] at hy
  rcases hy with (⟨a, ha, rfl⟩ | hy) | ⟨b, ⟨a, ha, rfl⟩, rfl⟩
  · exact wf_small (by omega) (by omega)
  · exact h y hy
  · exact wf_small (by omega) (by omega)
/-- The book behind so many meetings. -/
def fulS (L : List Int) : Nat → Bk
  | 0 => ⟨1000000, [], 0, []⟩
  | i + 1 => match L[i]? with
    | some y => (hitB (fulS L i) (keyN y)).1
    | none => fulS L i
theorem fulS_hit {L : List Int} {i : Nat} {y : Int} (h : L[i]? = some y) : fulS L (i + 1) = (hitB (fulS L i) (keyN y)).1 := by simp [fulS, h]
theorem fulS_inv {L : List Int} (hl : ∀ y ∈ L, (Lit.int .i64 y).wf = true) : ∀ i, Ok (fulS L i) ∧ (fulS L i).ent ≤ i ∧ (fulS L i).O = []
  | 0 => ⟨ok_new 1000000 (by omega), by simp [fulS], by simp [fulS]⟩
  | i + 1 => by
    obtain ⟨h1, h2, h3⟩ := fulS_inv hl i
    cases hy : L[i]? with
    | none =>
      have e : fulS L (i + 1) = fulS L i := by simp [fulS, hy]
      rw [e]
      exact ⟨h1, by omega, h3⟩
    | some y =>
      rw [fulS_hit hy]
      refine ⟨ok_hit h1 (kw_keyN (hl y (List.mem_of_getElem? hy))), ?_, by rw [(hit_thr _ _).2, h3]⟩
      have := hit_ent (fulS L i) (keyN y)
      omega
theorem fulS_good {L : List Int} (hl : ∀ y ∈ L, (Lit.int .i64 y).wf = true) {i : Nat} (hi : i ≤ 2000) : Good (fulS L i) := by
  obtain ⟨h1, h2, h3⟩ := fulS_inv hl i
  exact ⟨h1, by omega, by rw [h3]; simp, by rw [h3]; simp⟩
theorem ti3 : ∃ i z, Try.prog.info? 3 = some i ∧ i.zero = some z ∧ i.size = 1 ∧ i.bytes = 8 ∧ z.cells.size = 1 := by
  have h : (Try.prog.info? 3).map (fun i => (i.zero, i.size, i.bytes)) = some (some (.int .i64 0), 1, 8) := by kernel_rfl
  cases e : Try.prog.info? 3 with
  | none => rw [e] at h; cases h
  | some i =>
    rw [e] at h
    simp at h
    exact ⟨i, _, rfl, h.1, h.2.1, h.2.2, rfl⟩
theorem Two.over {w w' : World} {n : Nat} {S : Bk} (h : Two w n S) {T : List Nat} (f : Fr T w w') (hT : ∀ k ∈ T, n + 4 ≤ k ∧ (w.heap.size ≤ k ∨ ∀ c t z, w.heap[k]? = some (.cells c t z) → t ≠ 64 ∧ t ≠ 28)) : Two w' n S :=
  ⟨h.a.fr f (fun hm => by have := hT _ hm; omega) (fun hm => by have := hT _ hm; omega) (fun hm => by have := hT _ hm; omega), h.r.fr f (fun hm => by have := hT _ hm; omega) (fun k hk => .inr (hT k hk).2), Nat.le_trans h.z f.size⟩
theorem own_gr {w w' : World} {B B' n : Nat} {e : TypeId} {size : Nat} {v : Value} {xs : List Value} {p : TypeId → Bool} {T : List Nat} (h : w.ownsRow B e size v n xs) (f : Gr B' p T w w') (hp : p e = false) (hT : ∀ k, v.ownBlock = some k → k ∉ T) : w'.ownsRow B e size v n xs := by
  refine ⟨h.1, ?_⟩
  rcases h.2 with hn | ⟨g, cap, cur, rfl, hb, hgg, rest⟩
  · exact .inl hn
  · refine .inr ⟨g, cap, cur, rfl, hb, ?_, rest⟩
    rw [f.block g (Array.getElem?_eq_some_iff.1 hgg).1 (hT g rfl) (.inr (fun c t z hc => by rw [hgg] at hc; cases hc; exact hp))]
    exact hgg
/-- The list that is made, beside both books. -/
def FRl (w wr : World) (n : Nat) (v : Value) (L : List Int) (S : Bk) : Prop := Hid (Two wr n S) ∧ Hid (Fr [] w wr) ∧ Hid (wr.ownsRow (n + 4) 3 1 v L.length (L.map (Value.int .i64)))
theorem FRl.app {w wr w' : World} {n : Nat} {v v' : Value} {L M : List Int} {S : Bk} (h : FRl w wr n v L S) (hn : w.heap.size ≤ n) {X : World} (f : Fr [] wr X) {m : Nat} (hm : m = M.length) (ho : w'.ownsRow (n + 4) 3 1 v' (L.length + m) (L.map (Value.int .i64) ++ M.map (Value.int .i64))) (hg : X.grownBy w' v.ownBlock) : FRl w w' n v' (L ++ M) S := by
  obtain ⟨h1, h2, h3⟩ := h
  have o1 := own_fr h3.out f (by simp)
  have t1 := h1.out.fr0 f
  refine ⟨t1.over (Fr.ofGrown hg) (fun k hk => ?_), (h2.out.trans f).over (Fr.ofGrown hg) (fun k hk => .inr ?_), ?_⟩
  · simp only [Option.mem_toList] at hk
    obtain ⟨hb, cur, hc⟩ := own_type o1 hk
    exact ⟨hb, .inr (fun c t z e => by rw [hc] at e; cases e; exact ⟨by decide, by decide⟩)⟩
  · simp only [Option.mem_toList] at hk
    have := (own_type o1 hk).1
    omega
  · show World.ownsRow _ _ _ _ _ _ _
    rw [List.length_append, List.map_append, ← hm]
    exact ho
/-- The list that is gone through, beside both books. -/
def FR3 (w wr : World) (n g cap T : Nat) (L : List Int) (S : Bk) : Prop := Hid (Two wr n S) ∧ Hid (Fr [] w wr) ∧ Hid (wr.ownsRow (n + 4) 3 1 (.slice (some ⟨g, 0, none⟩) T cap) T (L.map (Value.int .i64)))
end Go.Proofs.Ytjeddgjndpdhoaa
