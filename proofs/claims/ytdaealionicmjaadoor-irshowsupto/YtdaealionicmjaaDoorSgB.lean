/-
  What a function's code is shown as, purely, with how long it is; no condition.
-/
import Derived.Test.YtdaealionicmjaaDoorSgA
import Derived.Test.YtdaealionicmjaaDoorBlk
namespace Go.Proofs.YtdaealionicmjaaDoor
open Go.RowKit
set_option linter.unusedVariables false
set_option linter.unusedSimpArgs false

theorem hidS {p : Prop} (h : p) : Hid p := h
theorem cat_txt (a b : List UInt8) : txt a ++ txt b = txt (a ++ b) := by
  apply ByteArray.ext
  simp [txt]
theorem lit_txt (a : Array UInt8) : (⟨a⟩ : ByteArray) = txt a.toList := by simp [txt]
theorem data_txt (a : List UInt8) : (txt a).data.toList = a := by simp [txt]
def joinB (l : List Int) : List UInt8 := Lib.join (l.map Lib.itoa) [44]
/-- A field as it is told. -/
def fldL (x : In) (c : Nat) : List UInt8 :=
  if c = 65 then [32, 65, 61] ++ Lib.itoa x.a else if c = 66 then [32, 66, 61] ++ Lib.itoa x.b else if c = 67 ∨ c = 99 then [32, 67, 61] ++ Lib.itoa x.c
  else if c = 75 then [32, 75, 61] ++ Lib.itoa x.k else [32, 76, 61] ++ joinB x.l
def fldsL (x : In) (l : List UInt8) : List UInt8 := l.flatMap (fun c => fldL x c.toNat)
def lineL (n : Nat) (x : In) : List UInt8 := Lib.itoa (n : Int) ++ [58, 32] ++ nT x.op ++ fldsL x (fT x.op) ++ [10]
def linesL : Nat → List In → List UInt8
  | _, [] => []
  | n, x :: r => lineL n x ++ linesL (n + 1) r
def headL (f : Fu) : List UInt8 := [102, 110, 32] ++ f.name.data.toList ++ [32] ++ Lib.itoa f.ps ++ [32] ++ Lib.itoa f.rs ++ [10]
def showL (f : Fu) : List UInt8 := headL f ++ linesL 0 f.code

structure WfIn (x : In) : Prop where
  a : (Lit.int .i64 x.a).wf = true
  b : (Lit.int .i64 x.b).wf = true
  c : (Lit.int .i64 x.c).wf = true
  k : (Lit.int .i64 x.k).wf = true
  l : ∀ z, z ∈ x.l → (Lit.int .i64 z).wf = true
structure WfFu (f : Fu) : Prop where
  p : (Lit.int .i64 f.ps).wf = true
  r : (Lit.int .i64 f.rs).wf = true
  c : ∀ x, x ∈ f.code → WfIn x
theorem join_len (s : List UInt8) (hs : s.length = 1) : ∀ (l : List (List UInt8)), (∀ t, t ∈ l → t.length ≤ 21) → (Lib.join l s).length ≤ 22 * l.length
  | [], _ => by simp [Lib.join]
  | [t], h => by have := h t (by simp); simp [Lib.join]; omega
  | t :: u :: r, h => by
    have h1 := h t (by simp)
    have h2 := join_len s hs (u :: r) (fun v hv => h v (by simp at hv ⊢; exact .inr hv))
    rw [Lib.join_cons] at h2 ⊢
    simp only [Lib.joinTail, List.map_cons, List.flatten_cons, List.length_append, List.length_cons] at h2 ⊢
    omega
theorem joinB_len {l : List Int} (h : ∀ z, z ∈ l → (Lit.int .i64 z).wf = true) : (joinB l).length ≤ 22 * l.length := by
  have := join_len [44] rfl (l.map Lib.itoa) (fun t ht => by
    simp only [List.mem_map] at ht
    obtain ⟨z, hz, rfl⟩ := ht
    exact itoa_len (h z hz))
  simpa [joinB] using this
theorem fldL_len {x : In} (h : WfIn x) (c : Nat) : (fldL x c).length ≤ 24 + 22 * x.l.length := by
  have h1 := itoa_len h.a
  have h2 := itoa_len h.b
  have h3 := itoa_len h.c
  have h4 := itoa_len h.k
  have h5 := joinB_len h.l
  unfold fldL
  split
  · simp; omega
  · split
    · simp; omega
    · split
      · simp; omega
      · split
        · simp; omega
        · simp; omega
theorem fldsL_len {x : In} (h : WfIn x) : ∀ l : List UInt8, (fldsL x l).length ≤ l.length * (24 + 22 * x.l.length)
  | [] => by simp [fldsL]
  | c :: r => by
    have h1 := fldL_len h c.toNat
    have h2 := fldsL_len h r
    simp only [fldsL, List.flatMap_cons, List.length_append, List.length_cons] at h2 ⊢
    rw [Nat.add_mul, Nat.one_mul]
    omega
theorem f_len : ∀ n, n < 29 → (fieldsT.getD n []).length ≤ 4 := by decide
theorem n_len : ∀ n, n < 29 → (namesT.getD n []).length ≤ 7 := by decide
theorem lineL_len {x : In} (h : WfIn x) (n : Nat) (hn : n ≤ 1000000000) : (lineL n x).length ≤ 130 * costI x := by
  have h1 := fldsL_len h (fT x.op)
  have h2 : (fT x.op).length ≤ 4 := f_len _ (rowN_lt _)
  have h3 : (nT x.op).length ≤ 7 := n_len _ (rowN_lt _)
  have h4 := itoa_len (n := (n : Int)) (by have e1 : IntKind.min .i64 = -9223372036854775808 := by decide
                                           simp [Lit.wf, e1]; omega)
  have h5 : (fT x.op).length * (24 + 22 * x.l.length) ≤ 4 * (24 + 22 * x.l.length) := Nat.mul_le_mul_right _ h2
  unfold lineL costI
  simp only [List.length_append, List.length_cons, List.length_nil]
  omega
theorem linesL_len : ∀ (L : List In) (n : Nat), n + L.length ≤ 1000000000 → (∀ x, x ∈ L → WfIn x) → (linesL n L).length ≤ 130 * (L.map costI).sum
  | [], _, _, _ => by simp [linesL]
  | x :: r, n, hn, h => by
    have h1 := lineL_len (h x (by simp)) n (by simp at hn; omega)
    have h2 := linesL_len r (n + 1) (by simp at hn; omega) (fun y hy => h y (by simp [hy]))
    simp only [linesL, List.length_append, List.map_cons, List.sum_cons]
    omega
theorem showL_len {f : Fu} (h : WfFu f) (hc : costF f ≤ 1048576) : (showL f).length ≤ 200000000 := by
  have e : costF f = (f.code.map costI).sum + f.name.size + 1 := rfl
  have h0 := costI_len f.code
  have h1 := linesL_len f.code 0 (by omega) h.c
  have h2 := itoa_len h.p
  have h3 := itoa_len h.r
  have h4 : f.name.data.toList.length = f.name.size := by simp
  unfold showL headL
  simp only [List.length_append, List.length_cons, List.length_nil]
  omega
theorem linesL_app (n : Nat) : ∀ (L M : List In), linesL n (L ++ M) = linesL n L ++ linesL (n + L.length) M
  | [], M => by simp [linesL]
  | x :: r, M => by
    have := linesL_app (n + 1) r M
    simp only [List.cons_append, linesL, this, List.length_cons, List.append_assoc]
    congr 3
    omega
end Go.Proofs.YtdaealionicmjaaDoor
