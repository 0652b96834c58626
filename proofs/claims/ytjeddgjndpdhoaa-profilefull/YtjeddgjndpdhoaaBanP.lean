/-
  A banned key changes nothing for the others: two books side by side; loads of keys, guarded ones too; no condition.
-/
import Derived.Test.YtjeddgjndpdhoaaBanR
namespace Go.Proofs.Ytjeddgjndpdhoaa
open Go.RowKit Go.Shelf Go.Maps Go.ChangeShapes
set_option linter.unusedVariables false
set_option linter.unusedSimpArgs false

theorem wpList_want {P : Program} {ops : Array Oper} {rest : List Oper} {o : Oper} {a : Act} {w : World} {Q : Exit → Act → World → Prop} (hw : Region.wanted o (yielded ops a.tmps) = true)
    (h : ∀ K : Act → World → Prop, (∀ a w, wpList P ops Q rest a w → K a w) → o.wp P a w K Q) : wpList P ops Q (o :: rest) a w :=
  wpList_step fun K hK => by simp only [hw, if_true]; exact h K hK
/-- A key is loaded from where its cells lie, also by a guarded operation that is wanted. -/
theorem wpList_load28 {ops : Array Oper} {rest : List Oper} {o : Oper} {a : Act} {w : World} {Q : Exit → Act → World → Prop} (hw : Region.wanted o (yielded ops a.tmps) = true) (x : Operand) (ho : o.op = .load 28 x)
    (b off : Nat) (hx : a.eval x = .pointer (some ⟨b, off, none⟩)) (k : Ky) (hc : w.rangeAt b off (kc k).toList) (h : wpList Try.prog ops Q rest (a.put o.dst (.agg (kc k))) w) : wpList Try.prog ops Q (o :: rest) a w :=
  wpList_want hw fun K hK => wp_load_mid 28 x ho b off hx (kc k).toList _ hc Try.underlying28 rfl (by rw [info28]; simp [kc_size]) (by rw [Array.toArray_toList]; exact hK _ _ h)
theorem range_box {w : World} {b : Nat} {k : Ky} {t : TypeId} {z : Nat × Nat} (h : w.heap[b]? = some (.cells (kc k) t z)) : w.rangeAt b 0 (kc k).toList := fun j v hv => at_cells h (0 + j) (by simpa using hv)
/-- The cells of an act. -/
def ac (y : Int × Ky) : Array Value := (.int .i64 y.1 :: (kc y.2).toList).toArray
theorem ac_size (y : Int × Ky) : (ac y).size = 11 := by simp [ac, kc_size]
theorem range_act {w : World} {b : Nat} {y : Int × Ky} {t : TypeId} {z : Nat × Nat} (h : w.heap[b]? = some (.cells (ac y) t z)) : w.rangeAt b 1 (kc y.2).toList := fun j v hv => at_cells h (1 + j) (by simpa [ac, Nat.add_comm] using hv)
theorem info38 : (Try.prog.info? 38).map (·.size) = some 11 := by kernel_rfl
def Z38 : Array Value := #[.int .i64 0, .int .i64 0, .int .i64 0, .int .i64 0, .int .i64 0, .int .i64 0, .int .i64 0, .int .i64 0, .int .i64 0, .int .i64 0, .int .i64 0]
theorem ac_one (y : Int × Ky) : (ac y).all (fun x => x.oneCell') = true := by
  have h := kc_one y.2
  rw [Array.all_eq_true'] at h ⊢
  intro u hu
  simp only [ac, List.mem_toArray, List.mem_cons] at hu
  rcases hu with rfl | hu
  · rfl
  · exact h u (by simpa using hu)
/-- An act is loaded from where its cells lie. -/
theorem wpList_load38 {ops : Array Oper} {rest : List Oper} {o : Oper} {a : Act} {w : World} {Q : Exit → Act → World → Prop} (hw : Region.wanted o (yielded ops a.tmps) = true) (x : Operand) (ho : o.op = .load 38 x)
    (b off : Nat) (hx : a.eval x = .pointer (some ⟨b, off, none⟩)) (y : Int × Ky) (hc : w.rangeAt b off (ac y).toList) (h : wpList Try.prog ops Q rest (a.put o.dst (.agg (ac y))) w) : wpList Try.prog ops Q (o :: rest) a w :=
  wpList_want hw fun K hK => wp_load_mid 38 x ho b off hx (ac y).toList _ hc Try.underlying38 rfl (by rw [info38]; simp [ac_size]) (by rw [Array.toArray_toList]; exact hK _ _ h)

/-- The acts as they lie. -/
def LAt (B : Nat) (w : World) (a : Option Addr) (l : List (Int × Ky)) : Prop := ∀ (i : Nat) (y : Int × Ky), l[i]? = some y → ∃ b o, a = some ⟨b, o, none⟩ ∧ b < B ∧ w.rangeAt b (o + i * 11) (ac y).toList
theorem LAt.fr {B : Nat} {S : List Nat} {w w' : World} {a : Option Addr} {l : List (Int × Ky)} (h : LAt B w a l) (f : Fr S w w') (hS : ∀ k, k ∈ S → B ≤ k) : LAt B w' a l := fun i y hy => by
  obtain ⟨b, o, e, hb, hr⟩ := h i y hy
  exact ⟨b, o, e, hb, fun j v hv => f.cell1 (hr j v hv) (fun hm => by have := hS _ hm; simp at this; omega)⟩

/-- A book behind the first acts of a list, those of one key left out. -/
def banS (t : Int) (k : Ky) (l : List (Int × Ky)) : Nat → Bk
  | 0 => ⟨max t 1, [], 0, []⟩
  | i + 1 => match l[i]? with
    | none => banS t k l i
    | some x => if x.2 = k then banS t k l i else (hitB (banS t k l i) x.2).1
def withO (S : Bk) (k : Ky) : Bk := { S with O := [k] }
theorem banS_same {t : Int} {k : Ky} {l : List (Int × Ky)} {i : Nat} {x : Int × Ky} (h : l[i]? = some x) (hk : x.2 = k) : banS t k l (i + 1) = banS t k l i := by simp [banS, h, hk]
theorem banS_other {t : Int} {k : Ky} {l : List (Int × Ky)} {i : Nat} {x : Int × Ky} (h : l[i]? = some x) (hk : x.2 ≠ k) : banS t k l (i + 1) = (hitB (banS t k l i) x.2).1 := by simp [banS, h, hk]
theorem has_put_other {L : List Rw} {k k' : Ky} {n s : Int} (h : k' ≠ k) : hasL (putL L k n s) k' = hasL L k' := by unfold hasL; rw [rowOf_put, if_neg h]
theorem has_sub {L M : List Rw} (h : L.Sublist M) {k : Ky} (hk : hasL M k = false) : hasL L k = false := by
  cases e : hasL L k with
  | false => rfl
  | true =>
    obtain ⟨r, hr, rk⟩ := has_iff.1 e
    have := has_iff.2 ⟨r, h.subset hr, rk⟩
    rw [hk] at this
    cases this
theorem room_sub (S : Bk) (x : Ky) : (roomB S x).L.Sublist S.L := by
  unfold roomB entB
  split
  · exact List.Sublist.refl _
  · show List.Sublist (if _ then _ else _) _
    split
    · exact List.eraseIdx_sublist _ _
    · exact List.Sublist.refl _
theorem has_hit {S : Bk} {x k : Ky} (h : k ≠ x) (hk : hasL S.L k = false) : hasL (hitB S x).1.L k = false := by
  unfold hitB
  split
  · exact hk
  · show hasL (putL _ _ _ _) k = false
    rw [has_put_other h]
    exact has_sub (room_sub S x) hk
theorem banS_inv {t : Int} (ht : t ≤ 9223372036854775807) {k : Ky} {l : List (Int × Ky)} (hl : ∀ y ∈ l, kw y.2) : ∀ i, Ok (banS t k l i) ∧ (banS t k l i).O = [] ∧ (banS t k l i).ent ≤ i ∧ hasL (banS t k l i).L k = false
  | 0 => ⟨ok_new t ht, rfl, by simp [banS], rfl⟩
  | i + 1 => by
    obtain ⟨h1, h2, h3, h4⟩ := banS_inv ht hl i
    cases hi : l[i]? with
    | none => rw [show banS t k l (i + 1) = banS t k l i by simp [banS, hi]]; exact ⟨h1, h2, by omega, h4⟩
    | some x =>
      by_cases e : x.2 = k
      · rw [banS_same hi e]; exact ⟨h1, h2, by omega, h4⟩
      · rw [banS_other hi e]
        refine ⟨ok_hit h1 (hl x (List.mem_of_getElem? hi)), (hit_thr _ _).2.trans h2, ?_, has_hit (fun h => e h.symm) h4⟩
        have := hit_ent (banS t k l i) x.2
        omega
theorem hit_no {S : Bk} {x : Ky} (h : x ∉ S.O) : hitB S x = ({ roomB S x with L := putL (roomB S x).L x (if hitC S x = S.thr then 0 else hitC S x) (hitS S x) }, decide (hitC S x = S.thr)) := by unfold hitB; rw [if_neg h]
theorem room_with (S : Bk) (k x : Ky) : roomB (withO S k) x = withO (roomB S x) k := by
  unfold roomB
  show (if hasL S.L x = true then withO S k else entB (withO S k)) = _
  split <;> rfl
theorem hit_with {S : Bk} {k x : Ky} (hO : S.O = []) (hx : x ≠ k) : hitB (withO S k) x = (withO (hitB S x).1 k, (hitB S x).2) := by
  rw [hit_no (S := withO S k) (by simp [withO, hx]), hit_no (S := S) (by rw [hO]; simp), room_with]
  rfl
theorem hit_ban (S : Bk) (k : Ky) : hitB (withO S k) k = (withO S k, false) := by unfold hitB; rw [if_pos (by simp [withO])]
theorem ok_with {S : Bk} (h : Ok S) (k : Ky) : Ok (withO S k) := ⟨h.nd, h.kw, h.len, h.ord, h.top, h.cnt, h.thr, h.ent⟩
theorem cnt_no {L : List Rw} {k : Ky} (h : hasL L k = false) : cntL L k = 0 := by
  unfold hasL at h
  cases e : rowOf L k with
  | none => simp [cntL, e]
  | some r => rw [e] at h; cases h
end Go.Proofs.Ytjeddgjndpdhoaa
