/-
  Whether instructions are alike; what is left of one without some fields; what wants a rule to be kept; conditions: what lies in memory lies as told.
-/
import Derived.Test.YtkjkpkmmojchiaaGreatDoorIrF
import Derived.Test.YtkjkpkmmojchiaaGreatDoorIrC
import Derived.RegionDies
namespace Go.Proofs.YtkjkpkmmojchiaaGreatDoor
open Go.RowKit
set_option linter.unusedVariables false
set_option linter.unusedSimpArgs false

def inEq (x y : In) : Bool := x.op == y.op && x.a == y.a && x.b == y.b && x.c == y.c && x.k == y.k && ksEq x.l y.l
theorem inEq_no {x y : In} (h : x.op ≠ y.op ∨ x.a ≠ y.a ∨ x.b ≠ y.b ∨ x.c ≠ y.c ∨ x.k ≠ y.k) : inEq x y = false := by
  unfold inEq
  rcases h with h | h | h | h | h <;> simp [h]
theorem inEq_yes {x y : In} (h0 : x.op = y.op) (h1 : x.a = y.a) (h2 : x.b = y.b) (h3 : x.c = y.c) (h4 : x.k = y.k) : inEq x y = ksEq x.l y.l := by
  unfold inEq
  simp [h0, h1, h2, h3, h4]

set_option maxRecDepth 100000 in
set_option maxHeartbeats 2000000 in
theorem sameIns_any (B : Nat) (w : World) (x y : In) (hx : InOk B w x) (hy : InOk B w y) :
    Calls Tryz.prog 176 #[.agg x.arr, .agg y.arr] w fun e w' => e = .returned (.bool (inEq x y)) ∧ Fr [] w w' := by
  have f0 : ∀ o1 o2, Fr [] w ((w.alloc o1).alloc o2) := fun o1 o2 => ((Fr.refl _ _).alloc _).alloc _
  have C := fun w' (f : Fr [] w w') => equal_any B w' x.l y.l x.la y.la x.l.length y.l.length x.lc y.lc rfl rfl (by have := hx.kl; unfold maxLen; omega) (by have := hy.kl; unfold maxLen; omega) (hx.k.fr f (by simp)) (hy.k.fr f (by simp))
  have HN : Hid (x.op ≠ y.op ∨ x.a ≠ y.a ∨ x.b ≠ y.b ∨ x.c ≠ y.c ∨ x.k ≠ y.k → inEq x y = false) := inEq_no
  have HY : Hid (x.op = y.op → x.a = y.a → x.b = y.b → x.c = y.c → x.k = y.k → inEq x y = ksEq x.l y.l) := inEq_yes
  generalize ksEq x.l y.l = kq at *
  generalize inEq x y = R at *
  clear hx hy
  obtain ⟨xop, xa, xb, xc, xk, xla, xlc, xl⟩ := x
  obtain ⟨yop, ya, yb, yc, yk, yla, ylc, yl⟩ := y
  unfold In.arr
  simp only at *
  by_cases h0 : xop = yop
  · subst h0
    by_cases h1 : xa = ya
    · subst h1
      by_cases h2 : xb = yb
      · subst h2
        by_cases h3 : xc = yc
        · subst h3
          by_cases h4 : xk = yk
          · subst h4
            have HR : Hid (R = kq) := HY.out rfl rfl rfl rfl rfl
            clear HN HY
            go_enter Tryz.func176, Tryz.ntmps176
            go_wp2_with (go_at_call 179; refine (C _ (f0 _ _)).mono ?_; rintro e w' ⟨rfl, f1⟩)
            go_ret
            exact ⟨by rw [HR.out]; rfl, (f0 _ _).trans f1⟩
          · have d4 : (xk == yk) = false := beq_int_false h4
            have HR : Hid (R = false) := HN.out (.inr (.inr (.inr (.inr h4))))
            clear HN HY C h4
            go_enter Tryz.func176, Tryz.ntmps176
            go_wp2
            go_ret
            exact ⟨by rw [HR.out]; rfl, f0 _ _⟩
        · have d3 : (xc == yc) = false := beq_int_false h3
          have HR : Hid (R = false) := HN.out (.inr (.inr (.inr (.inl h3))))
          clear HN HY C h3
          go_enter Tryz.func176, Tryz.ntmps176
          go_wp2
          go_ret
          exact ⟨by rw [HR.out]; rfl, f0 _ _⟩
      · have d2 : (xb == yb) = false := beq_int_false h2
        have HR : Hid (R = false) := HN.out (.inr (.inr (.inl h2)))
        clear HN HY C h2
        go_enter Tryz.func176, Tryz.ntmps176
        go_wp2
        go_ret
        exact ⟨by rw [HR.out]; rfl, f0 _ _⟩
    · have d1 : (xa == ya) = false := beq_int_false h1
      have HR : Hid (R = false) := HN.out (.inr (.inl h1))
      clear HN HY C h1
      go_enter Tryz.func176, Tryz.ntmps176
      go_wp2
      go_ret
      exact ⟨by rw [HR.out]; rfl, f0 _ _⟩
  · have d0 : (xop == yop) = false := beq_int_false h0
    have HR : Hid (R = false) := HN.out (.inl h0)
    clear HN HY C h0
    go_enter Tryz.func176, Tryz.ntmps176
    go_wp2
    go_ret
    exact ⟨by rw [HR.out]; rfl, f0 _ _⟩

/-- A judge in memory: the code, the map of merges, where it is. -/
def JB (w : World) (jb : Nat) (fa : Option Addr) (len cap : Nat) (mn mg : Int) (mb : Nat) (n i : Int) : Prop :=
  w.heap[jb]? = some (.cells #[.slice fa len cap, .int .i64 mn, .int .i64 mg, .map (some mb), .int .i64 n, .int .i64 i] 174 (0, 0))
theorem JB.fr {S : List Nat} {w w' : World} {jb : Nat} {fa : Option Addr} {len cap : Nat} {mn mg : Int} {mb : Nat} {n i : Int} (h : JB w jb fa len cap mn mg mb n i) (f : Fr S w w') (hS : jb ∉ S) : JB w' jb fa len cap mn mg mb n i :=
  (f.block _ (Array.getElem?_eq_some_iff.1 h).1 hS).trans h
def thrown (n i : Int) : Ending := .panicked [{ v := .iface 171 (.agg #[.int .i64 n, .int .i64 i]), recovered := false }]

set_option maxRecDepth 100000 in
theorem want_yes (jb : Nat) (w : World) : Calls Tryz.prog 154 #[.pointer (some ⟨jb, 0, none⟩), .bool true] w fun e w' => e = .returned (.tuple #[]) ∧ w' = w := by
  go_enter Tryz.func154, Tryz.ntmps154
  go_wp2
  go_end0
  exact ⟨rfl, rfl⟩
set_option maxRecDepth 100000 in
theorem want_no {jb : Nat} {w : World} {fa : Option Addr} {len cap : Nat} {mn mg : Int} {mb : Nat} {n i : Int} (h : JB w jb fa len cap mn mg mb n i) : Calls Tryz.prog 154 #[.pointer (some ⟨jb, 0, none⟩), .bool false] w fun e w' => e = thrown n i ∧ w' = w := by
  have c4 : w.cell? ⟨jb, 4, none⟩ = some (.int .i64 n) := at_cells h 4 rfl
  have c5 : w.cell? ⟨jb, 5, none⟩ = some (.int .i64 i) := at_cells h 5 rfl
  unfold thrown
  clear h
  go_enter Tryz.func154, Tryz.ntmps154
  go_wp2
  exact ⟨rfl, rfl, rfl⟩

/-- What comes of a rule: kept, or thrown. -/
def Out (ok : Bool) (n i : Int) (R N : World → Prop) (e : Ending) (w' : World) : Prop := match ok with | true => e = .returned (.tuple #[]) ∧ R w' | false => e = thrown n i ∧ N w'
theorem Out.yes {n i : Int} {R N : World → Prop} {e : Ending} {w' : World} (h : Out true n i R N e w') : e = .returned (.tuple #[]) ∧ R w' := h
theorem Out.no {n i : Int} {R N : World → Prop} {e : Ending} {w' : World} (h : Out false n i R N e w') : e = thrown n i ∧ N w' := h

set_option maxRecDepth 100000 in
theorem within_yes (jb : Nat) (z a b : Int) (w : World) (h0 : a ≤ z) (h1 : z ≤ b) : Calls Tryz.prog 155 #[.pointer (some ⟨jb, 0, none⟩), .int .i64 z, .int .i64 a, .int .i64 b] w fun e w' => e = .returned (.tuple #[]) ∧ w' = w := by
  have C := want_yes jb w
  have d0 : decide (a ≤ z) = true := by simpa using h0
  have d1 : decide (z ≤ b) = true := by simpa using h1
  go_enter Tryz.func155, Tryz.ntmps155
  go_wp2_with (go_at_call 154; refine C.mono ?_; rintro e w' ⟨rfl, rfl⟩)
  go_end0
  exact ⟨rfl, rfl⟩
set_option maxRecDepth 100000 in
theorem within_no {jb : Nat} {w : World} {fa : Option Addr} {len cap : Nat} {mn mg : Int} {mb : Nat} {n i : Int} (h : JB w jb fa len cap mn mg mb n i) (z a b : Int) (h0 : ¬ (a ≤ z ∧ z ≤ b)) : Calls Tryz.prog 155 #[.pointer (some ⟨jb, 0, none⟩), .int .i64 z, .int .i64 a, .int .i64 b] w fun e w' => e = thrown n i ∧ w' = w := by
  have C := want_no h
  unfold thrown at *
  clear h
  by_cases h1 : a ≤ z
  · have d1 : decide (z ≤ b) = false := decide_eq_false (fun h => h0 ⟨h1, h⟩)
    have d0 : decide (a ≤ z) = true := by simpa using h1
    clear h0
    go_enter Tryz.func155, Tryz.ntmps155
    go_wp2_with (go_at_call 154; refine C.mono ?_; rintro e w' ⟨rfl, rfl⟩)
    exact ⟨rfl, rfl, rfl⟩
  · have d0 : decide (a ≤ z) = false := decide_eq_false h1
    clear h0
    go_enter Tryz.func155, Tryz.ntmps155
    go_wp2_with (go_at_call 154; refine C.mono ?_; rintro e w' ⟨rfl, rfl⟩)
    exact ⟨rfl, rfl, rfl⟩
theorem within_any {jb : Nat} {w : World} {fa : Option Addr} {len cap : Nat} {mn mg : Int} {mb : Nat} {n i : Int} (h : JB w jb fa len cap mn mg mb n i) (z a b : Int) : Calls Tryz.prog 155 #[.pointer (some ⟨jb, 0, none⟩), .int .i64 z, .int .i64 a, .int .i64 b] w (Out (decide (a ≤ z ∧ z ≤ b)) n i (fun w' => w' = w) (fun w' => w' = w)) := by
  by_cases h0 : a ≤ z ∧ z ≤ b
  · rw [decide_eq_true h0]; exact within_yes jb z a b w h0.1 h0.2
  · rw [decide_eq_false h0]; exact within_no h z a b h0
theorem want_any {jb : Nat} {w : World} {fa : Option Addr} {len cap : Nat} {mn mg : Int} {mb : Nat} {n i : Int} (h : JB w jb fa len cap mn mg mb n i) (k : Bool) : Calls Tryz.prog 154 #[.pointer (some ⟨jb, 0, none⟩), .bool k] w (Out k n i (fun w' => w' = w) (fun w' => w' = w)) := by
  cases k
  · exact want_no h
  · exact want_yes jb w

def endsL (op : Int) : Bool := op == 21 || op == 24 || op == 25
set_option maxRecDepth 100000 in
theorem ends_any (op : Int) (w : World) : Calls Tryz.prog 167 #[.int .i64 op] w fun e w' => e = .returned (.bool (endsL op)) ∧ w' = w := by
  have HE : Hid (endsL op = (op == 21 || op == 24 || op == 25)) := rfl
  by_cases e1 : op = 21
  · subst e1
    go_enter Tryz.func167, Tryz.ntmps167
    go_wp2
    go_ret
    exact ⟨rfl, rfl⟩
  · have d1 : (op == 21) = false := beq_int_false e1
    by_cases e2 : op = 24
    · subst e2
      go_enter Tryz.func167, Tryz.ntmps167
      go_wp2
      go_ret
      exact ⟨rfl, rfl⟩
    · have d2 : (op == 24) = false := beq_int_false e2
      have HR : Hid (endsL op = (op == 25)) := by unfold Hid; rw [HE.out, d1, d2]; rfl
      clear e1 e2 HE
      go_enter Tryz.func167, Tryz.ntmps167
      go_wp2
      go_ret
      exact ⟨by rw [HR.out]; rfl, rfl⟩
end Go.Proofs.YtkjkpkmmojchiaaGreatDoor
