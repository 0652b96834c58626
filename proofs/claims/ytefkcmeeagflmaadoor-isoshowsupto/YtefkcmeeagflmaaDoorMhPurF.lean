/-
  Texts of values, one by one; how long they are; pure.
-/
import Derived.Test.YtefkcmeeagflmaaDoorMhRefA
namespace Go.Proofs.YtefkcmeeagflmaaDoor
open Go.RowKit
set_option linter.unusedVariables false
set_option linter.unusedSimpArgs false

theorem bt_app (a b : List UInt8) : bt a ++ bt b = bt (a ++ b) := by
  apply ByteArray.ext
  simp [bt]
theorem bt_lit (a : List UInt8) : (⟨a.toArray⟩ : ByteArray) = bt a := rfl

theorem lst_take (f : Int × Int → List Int → List UInt8 × List Int) : ∀ (x : List (Int × Int)) (k : Nat) (v : Int × Int) (s : List UInt8) (out : List Int), x[k]? = some v →
    lstR f s (x.take (k + 1)) out = ((lstR f s (x.take k) out).1 ++ (if k = 0 then s else [32]) ++ (f v (lstR f s (x.take k) out).2).1, (f v (lstR f s (x.take k) out).2).2)
  | [], k, v, s, out, h => by simp at h
  | y :: r, 0, v, s, out, h => by
    simp at h
    subst h
    simp [lstR]
  | y :: r, k + 1, v, s, out, h => by
    have h1 := lst_take f r k v [32] (f y out).2 (by simpa using h)
    simp only [List.take_succ_cons, lstR] at h1 ⊢
    rw [h1]
    have e : (if k = 0 then ([32] : List UInt8) else [32]) = [32] := by split <;> rfl
    rw [e]
    simp
theorem lst_pre_take (f : Int × Int → List Int → List UInt8 × List Int) (hp : ∀ v out, ∃ t, (f v out).2 = out ++ t) (s : List UInt8) (x : List (Int × Int)) (k : Nat) (out : List Int) : ∃ t, (lstR f s x out).2 = (lstR f s (x.take k) out).2 ++ t := by
  rw [lst_fold, lst_fold]
  have e : x.foldl (fun o v => (f v o).2) out = (x.drop k).foldl (fun o v => (f v o).2) ((x.take k).foldl (fun o v => (f v o).2) out) := by rw [← List.foldl_append, List.take_append_drop]
  rw [e, ← lst_fold f []]
  exact lst_pre hp _ _ _

/-- Numbers of 64 bits. -/
def wfA (A : List (Int × List (Int × Int))) : Prop := ∀ o, o ∈ A → (Lit.int .i64 o.1).wf = true ∧ ∀ c, c ∈ o.2 → (Lit.int .i64 c.2).wf = true
theorem wfA.at {A : List (Int × List (Int × Int))} (h : wfA A) {p : Int × Int} {o : Int × List (Int × Int)} (ho : thingAt A p = some o) : (Lit.int .i64 o.1).wf = true ∧ ∀ c, c ∈ o.2 → (Lit.int .i64 c.2).wf = true := by
  unfold thingAt at ho
  split at ho
  · exact h o (List.mem_of_getElem? ho)
  · cases ho

theorem lst_tl {A : List (Int × List (Int × Int))} {f : Int × Int → List Int → List UInt8 × List Int} {M : Nat} (hl : ∀ v out, (f v out).2.length + lft (fun _ => 1) A (f v out).2 ≤ out.length + lft (fun _ => 1) A out)
    (h : ∀ v out, (Lit.int .i64 v.2).wf = true → out.length + lft (fun _ => 1) A out ≤ 1000000000 → (f v out).1.length + 200 * lft wt2 A (f v out).2 ≤ 100 + 200 * lft wt2 A out) : ∀ (s : List UInt8) (x : List (Int × Int)) (out : List Int), s.length ≤ 1 → (∀ c, c ∈ x → (Lit.int .i64 c.2).wf = true) → out.length + lft (fun _ => 1) A out ≤ 1000000000 → (lstR f s x out).1.length + 200 * lft wt2 A (lstR f s x out).2 ≤ 101 * x.length + 200 * lft wt2 A out
  | s, [], out, _, _, _ => by simp [lstR]
  | s, v :: r, out, hs, hw, ho => by
    have h1 := h v out (hw v (by simp)) ho
    have h2 := hl v out
    have h3 := lst_tl (M := M) hl h [32] r (f v out).2 (by simp) (fun c hc => hw c (by simp [hc])) (by omega)
    rw [lstR]
    simp only [List.length_append, List.length_cons] at h3 ⊢
    omega
theorem val_tl {A : List (Int × List (Int × Int))} (hA : wfA A) : ∀ (n : Nat) (v : Int × Int) (out : List Int), (Lit.int .i64 v.2).wf = true → out.length + lft (fun _ => 1) A out ≤ 1000000000 → (valR A n v out).1.length + 200 * lft wt2 A (valR A n v out).2 ≤ 100 + 200 * lft wt2 A out
  | 0, v, out, _, _ => by simp [valR]
  | n + 1, v, out, hv, ho => by
    rw [valR]
    cases ht : thingAt A v with
    | none =>
      have : (plainB v).length ≤ 21 := by
        unfold plainB
        split
        · exact itoa_len hv
        · split <;> simp
      simp only
      omega
    | some o =>
      cases hi : idx out v.2 with
      | some k =>
        have hk := (List.getElem?_eq_some_iff.1 (idx_at hi)).1
        have := itoa_len (n := (k : Int)) (wf_small (by omega) (by omega))
        simp only [List.length_cons]
        omega
      | none =>
        obtain ⟨w1, w2⟩ := hA.at ht
        have h1 := lft_one (fun _ => 1) ht hi
        have h2 := lft_one wt2 ht hi
        have h3 := lst_tl (A := A) (M := 0) (val_len A n) (val_tl hA n) (sep0 o.1) o.2 (out ++ [v.2]) (by unfold sep0; split <;> simp) w2 (by simp only [List.length_append, List.length_singleton]; omega)
        have h4 := itoa_len (n := (out.length : Int)) (wf_small (by omega) (by omega))
        have h5 := opn_len w1
        have h6 : (cls o.1).length = 1 := by unfold cls; split <;> simp
        simp only [List.length_append, List.length_cons, wt2] at h2 h3 ⊢
        omega
end Go.Proofs.YtefkcmeeagflmaaDoor
