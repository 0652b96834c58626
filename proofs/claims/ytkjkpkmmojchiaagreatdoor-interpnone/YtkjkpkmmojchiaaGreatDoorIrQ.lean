/-
  Which instructions a judge takes; conditions: the judge, the function and the instruction lie as told.
-/
import Derived.Test.YtkjkpkmmojchiaaGreatDoorIrPa
import Derived.Test.YtkjkpkmmojchiaaGreatDoorIrPb
import Derived.Test.YtkjkpkmmojchiaaGreatDoorIrPc
import Derived.Test.YtkjkpkmmojchiaaGreatDoorIrPe
import Derived.Test.YtkjkpkmmojchiaaGreatDoorIrPf
import Derived.Deep.Cut
namespace Go.Proofs.YtkjkpkmmojchiaaGreatDoor
open Go.RowKit Go.Maps
set_option linter.unusedVariables false
set_option linter.unusedSimpArgs false

theorem number_cps {P : JP} {n i : Int} {cnt : Nat} {seen : Int → Bool} {w : World} (h : JS P n i cnt seen w) (f : Fu) (x : In) (hwk : wfI x.k) (hxl : x.l.length ≤ 8000000000000) (hcl : f.code.length ≤ 20000000000000) (hfl : P.len ≤ 20000000000000) (hm0 : 0 ≤ P.mg) (hm1 : P.mg ≤ 9223372036854775807) (hcnt : cnt ≤ 8000000000000) (R : Ending → World → Prop)
    (hy : numOk P.F P.mg f i x seen = true → ∀ w', JS P n i (nCnt x.op cnt) (nSeen x.op x.k seen) w' → Fr P.S w w' → R (.returned (.tuple #[])) w') (hn : numOk P.F P.mg f i x seen = false → ∀ w', Fr P.S w w' → R (thrown n i) w') :
    Calls Tryz.prog 175 #[.pointer (some ⟨P.jb, 0, none⟩), .agg f.arr, .agg x.arr] w R := by
  by_cases e4 : x.op = 4
  · exact number_4 h f x e4 hwk hxl hcl hfl hm0 hm1 hcnt R hy hn
  by_cases e5 : x.op = 5
  · exact number_5 h f x e5 hwk hxl hcl hfl hm0 hm1 hcnt R hy hn
  by_cases e8 : x.op = 8
  · exact number_8 h f x e8 hwk hxl hcl hfl hm0 hm1 hcnt R hy hn
  by_cases e9 : x.op = 9
  · exact number_9 h f x e9 hwk hxl hcl hfl hm0 hm1 hcnt R hy hn
  by_cases e13 : x.op = 13
  · exact number_13 h f x e13 hwk hxl hcl hfl hm0 hm1 hcnt R hy hn
  by_cases e21 : x.op = 21
  · exact number_21 h f x e21 hwk hxl hcl hfl hm0 hm1 hcnt R hy hn
  by_cases e22 : x.op = 22
  · exact number_22 h f x e22 hwk hxl hcl hfl hm0 hm1 hcnt R hy hn
  by_cases e23 : x.op = 23
  · exact number_23 h f x e23 hwk hxl hcl hfl hm0 hm1 hcnt R hy hn
  by_cases e27 : x.op = 27
  · exact number_27 h f x e27 hwk hxl hcl hfl hm0 hm1 hcnt R hy hn
  exact number_other h f x e4 e5 e8 e9 e13 e21 e22 e23 e27 hwk hxl hcl hfl hm0 hm1 hcnt R hy hn

def inR (f : Fu) (k : Int) : Bool := decide (0 ≤ k ∧ k < f.rs)
def hasL (l : List UInt8) (c : Nat) : Bool := l.any (fun d => d.toNat == c)
def bareI (x : In) : In := ⟨x.op, 0, 0, 0, 0, none, 0, []⟩
/-- Which instructions are taken. -/
def insOk (F : List Fu) (mg : Int) (f : Fu) (i : Int) (x : In) (seen : Int → Bool) : Bool :=
  decide (0 < rowN x.op) && (regsL x (fT x.op)).all (inR f) && (!hasL (fT x.op) 99 || decide (0 ≤ x.c ∧ x.c ≤ 1000)) && (!hasL (fT x.op) 75 || numOk F mg f i x seen) && inEq (woL x (fT x.op)) (bareI x)

theorem once_k : ∀ n, n < 29 → ∀ p, p < (fieldsT.getD n []).length → ((fieldsT.getD n []).getD p 0).toNat = 75 → hasL ((fieldsT.getD n []).take p) 75 = false := by decide
theorem no_k27 : ∀ n, n < 29 → hasL (fieldsT.getD n []) 75 = false → n ≠ 27 := by decide
theorem ascii_f : ∀ n, n < 29 → (fieldsT.getD n []).all (fun c => decide (c.toNat < 128)) = true := by decide
theorem hasL_snoc (l : List UInt8) (c : UInt8) (k : Nat) : hasL (l ++ [c]) k = (hasL l k || c.toNat == k) := by simp [hasL]
theorem InOk.wo1 {B : Nat} {w : World} {x : In} (h : InOk B w x) (c : Nat) : InOk B w (wo1 x c) := by
  unfold Go.Proofs.YtkjkpkmmojchiaaGreatDoor.wo1
  split
  · exact ⟨h.k, h.kl, h.kc, h.kn⟩
  · split
    · exact ⟨h.k, h.kl, h.kc, h.kn⟩
    · split
      · exact ⟨h.k, h.kl, h.kc, h.kn⟩
      · split
        · exact ⟨h.k, h.kl, h.kc, h.kn⟩
        · split
          · exact ⟨KAt.nil, by simp, by simp, fun _ => rfl⟩
          · exact h
theorem InOk.wo {B : Nat} {w : World} (l : List UInt8) : ∀ {x : In}, InOk B w x → InOk B w (woL x l) := by
  induction l with
  | nil => intro x h; exact h
  | cons c r ih => intro x h; exact ih (h.wo1 c.toNat)
theorem InOk.bare {B : Nat} {w : World} (x : In) : InOk B w (bareI x) := ⟨KAt.nil, by simp [bareI], by simp [bareI], fun _ => rfl⟩

/-- What stands while an instruction's letters are looked at: whether its number has been looked at. -/
structure InsI (P : JP) (n i : Int) (cnt : Nat) (seen : Int → Bool) (f : Fu) (x : In) (l : List UInt8) (w : World) (N pos : Nat) (wr : World) : Prop where
  le : pos ≤ l.length
  it : wr.heap[N]? = some (.stringIter (txt l) pos)
  fr : Fr P.S w wr
  bf : wr.heap[w.heap.size]? = some (.cells f.arr 87 (0, 0))
  bx : wr.heap[w.heap.size + 1]? = some (.cells x.arr 80 (0, 0))
  j : JS P n i (if hasL (l.take pos) 75 then nCnt x.op cnt else cnt) (if hasL (l.take pos) 75 then nSeen x.op x.k seen else seen) wr
  c : hasL (l.take pos) 99 = true → 0 ≤ x.c ∧ x.c ≤ 1000
  k : hasL (l.take pos) 75 = true → numOk P.F P.mg f i x seen = true
section
variable {P : JP} {n i : Int} {cnt : Nat} {seen : Int → Bool} {f : Fu} {x : In} {l : List UInt8} {w : World} {N pos : Nat} {wr : World}
theorem take_snoc1 {l : List UInt8} {p : Nat} (h : p < l.length) : l.take (p + 1) = l.take p ++ [l[p]] := by rw [List.take_add_one, List.getElem?_eq_getElem h]; rfl
/-- One letter further. -/
theorem InsI.next (h : InsI P n i cnt seen f x l w N pos wr) (hp : pos < l.length) (hN : w.heap.size + 1 < N) (hjb : P.jb < w.heap.size) (hmb : P.mb < w.heap.size) {w3 : World} (f3 : Fr P.S (wr.iterAt N (txt l) (pos + 1)) w3)
    (hj : JS P n i (if hasL (l.take (pos + 1)) 75 then nCnt x.op cnt else cnt) (if hasL (l.take (pos + 1)) 75 then nSeen x.op x.k seen else seen) w3)
    (hc : l[pos].toNat = 99 → 0 ≤ x.c ∧ x.c ≤ 1000) (hk : l[pos].toNat = 75 → numOk P.F P.mg f i x seen = true) : InsI P n i cnt seen f x l w N (pos + 1) w3 := by
  have f1 := Fr.iterAt wr N (txt l) (pos + 1)
  have i1 := Lib.iterAt_heap wr N (txt l) pos (pos + 1) h.it
  have e1 := (f1.block _ (Array.getElem?_eq_some_iff.1 h.bf).1 (by simp; omega)).trans h.bf
  have e2 := (f1.block _ (Array.getElem?_eq_some_iff.1 h.bx).1 (by simp; omega)).trans h.bx
  have nS : ∀ k, w.heap.size ≤ k → k ∉ P.S := fun k hk hm => by simp [JP.S] at hm; omega
  have t1 := take_snoc1 hp
  refine ⟨hp, (f3.block _ (Array.getElem?_eq_some_iff.1 i1).1 (nS _ (by omega))).trans i1, ?_, (f3.block _ (Array.getElem?_eq_some_iff.1 e1).1 (nS _ (by omega))).trans e1, (f3.block _ (Array.getElem?_eq_some_iff.1 e2).1 (nS _ (by omega))).trans e2, hj, ?_, ?_⟩
  · exact (((h.fr.sub (T := N :: P.S) (fun k hk => .inl (List.mem_cons_of_mem _ hk))).trans (f1.sub (fun k hk => .inl (by simp at hk; simp [hk])))).trans (f3.sub (fun k hk => .inl (List.mem_cons_of_mem _ hk)))).sub (fun k hk => by
      simp only [List.mem_cons] at hk
      rcases hk with rfl | hk
      · exact .inr (by omega)
      · exact .inl hk)
  · intro hh
    rw [t1, hasL_snoc] at hh
    rcases Bool.or_eq_true _ _ ▸ hh with h1 | h1
    · exact h.c h1
    · exact hc (by simpa using h1)
  · intro hh
    rw [t1, hasL_snoc] at hh
    rcases Bool.or_eq_true _ _ ▸ hh with h1 | h1
    · exact h.k h1
    · exact hk (by simpa using h1)
end
end Go.Proofs.YtkjkpkmmojchiaaGreatDoor
