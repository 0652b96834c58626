/-
  Whether an argument may be; the bounds of K and C; conditions: what lies in memory lies as told.
-/
import Derived.Test.YtkogfgbgmifcnaaDoorTcF
namespace Go.Proofs.YtkogfgbgmifcnaaDoor
open Go.RowKit Go.Shelf Go.Maps Go.ChangeShapes
set_option linter.unusedVariables false
set_option linter.unusedSimpArgs false
theorem wpList_ld51 {ops : Array Oper} {rest : List Oper} {o : Oper} {a : Act} {w : World} {Q : Exit → Act → World → Prop} (hgd : o.guard = none) (x : Operand) (ho : o.op = .load 51 x)
    (g : Nat) (hx : a.eval x = .pointer (some ⟨g, 0, none⟩)) (A : Array Value) (hA : A.size = 4) (hg : w.heap[g]? = some (.cells A 51 (0, 0)))
    (h : wpList Tryd.prog ops Q rest (a.put o.dst (.agg A)) w) : wpList Tryd.prog ops Q (o :: rest) a w :=
  wpList_load_row hgd 51 x ho g hx 51 A (0, 0) _ hg Tryd.underlying51 rfl (by rw [hA]; exact info51) h
def argOk (a : AT) (p : Int) (s : Sr) : Bool := (srcOk s a.virts.length && decide (s.k ≠ 2)) && madeOk a p s
theorem abs_virts (t : Tr) : t.abs.virts.length = t.virts.length := by simp [Tr.abs]
/-- Where a judge stands: the table, the trace, the judge itself. -/
structure JS (w : World) (B : Nat) (t : Tr) (jb : Nat) (p : Int) (wp : Value) : Prop where
  tab : Tab w
  ok : TrOk w B t
  jb : JB w jb t p wp
theorem JS.fr0 {w w' : World} {B : Nat} {t : Tr} {jb : Nat} {p : Int} {wp : Value} (h : JS w B t jb p wp) (f : Fr [] w w') : JS w' B t jb p wp := ⟨h.tab.fr0 f, h.ok.fr0 f, h.jb.fr0 f⟩
theorem JS.vl {w : World} {B : Nat} {t : Tr} {jb : Nat} {p : Int} {wp : Value} (h : JS w B t jb p wp) : t.virts.length ≤ 140737488355328 := by have := h.ok.virts.fit; omega
set_option maxRecDepth 100000 in
set_option maxHeartbeats 8000000 in
theorem argument116 {w : World} {B : Nat} {t : Tr} {jb : Nat} {p : Int} {wp : Value} (h : JS w B t jb p wp) (hp : p ≤ t.ops.length) (s : Sr) (hs : s.w) : Calls Tryd.prog 116 #[.pointer (some ⟨jb, 0, none⟩), .agg s.cl.toArray] w (Jd (argOk t.abs p s) p w) := by
  have F1 : Fr [] w (w.alloc (.cells s.cl.toArray 51)) := (Fr.refl _ _).alloc _
  have hx := heap_alloc_new w (.cells s.cl.toArray 51)
  have h1 := h.fr0 F1
  have C1 := source111 h1.jb h.vl s hs
  have c0 : (w.alloc (.cells s.cl.toArray 51)).cell? ⟨w.heap.size, 0, none⟩ = some (.int .i64 s.k) := at_cells hx 0 rfl
  have HX : Hid ((w.alloc (.cells s.cl.toArray 51)).heap[w.heap.size]? = some (.cells s.cl.toArray 51 (0, 0)) ∧ Fr [] w (w.alloc (.cells s.cl.toArray 51))) := ⟨hx, F1⟩
  have HA : Hid (argOk t.abs p s = ((srcOk s t.virts.length && decide (s.k ≠ 2)) && madeOk t.abs p s)) := by unfold Hid argOk; rw [abs_virts]
  have CW : ∀ (ok : Bool) w', Fr [] (w.alloc (.cells s.cl.toArray 51)) w' → Calls Tryd.prog 110 #[.pointer (some ⟨jb, 0, none⟩), .bool ok] w' _ := fun ok w' f => want_any (h1.jb.fr0 f) ok
  have CM := fun w' (f : Fr [] (w.alloc (.cells s.cl.toArray 51)) w') => made115 (h1.fr0 f).tab (h1.fr0 f).ok (h1.fr0 f).jb hp s hs
  clear hx F1 h h1 hs
  unfold Jd at *
  rw [HA.out]
  clear HA
  cases hsrc : srcOk s t.virts.length with
  | false =>
    rw [hsrc] at C1
    simp only [Bool.false_eq_true, if_false, Bool.false_and] at C1 ⊢
    clear hsrc CW CM
    unfold thrown at *
    go_enter Tryd.func116, Tryd.ntmps116
    go_upto_region 1 with fail
    generalize w.alloc (.cells s.cl.toArray 51) = W0 at *
    go_wp2_with (first
      | refine wpList_ld51 rfl (.tmp 3) rfl w.heap.size rfl s.cl.toArray rfl HX.out.1 ?_
      | (go_at_call 111; refine C1.mono ?_; rintro e w2 ⟨rfl, f2⟩; have HF2 := hid (HX.out.2.trans f2); clear f2 C1))
    exact ⟨rfl, rfl, HF2.out⟩
  | true =>
    rw [hsrc] at C1
    simp only [if_true, Bool.true_and] at C1 ⊢
    clear hsrc
    by_cases k2 : s.k = 2
    · have CW2 := fun w' f => CW false w' f
      rw [decide_eq_false (by simp [k2] : ¬ s.k ≠ 2)]
      simp only [Bool.false_eq_true, if_false, Bool.false_and] at CW2 ⊢
      rw [k2] at c0
      clear CW CM k2
      unfold thrown at *
      go_enter Tryd.func116, Tryd.ntmps116
      go_upto_region 1 with fail
      generalize w.alloc (.cells s.cl.toArray 51) = W0 at *
      go_wp2_with (first
        | refine wpList_ld51 rfl (.tmp 3) rfl w.heap.size rfl s.cl.toArray rfl HX.out.1 ?_
        | (go_at_call 111; refine C1.mono ?_; rintro e w2 ⟨rfl, f2⟩; have c2 : w2.cell? ⟨w.heap.size, 0, none⟩ = some (.int .i64 2) := f2.cell1 c0 (by simp); clear C1)
        | (go_at_call 110; refine (CW2 _ f2).mono ?_; rintro e w3 ⟨rfl, rfl⟩))
      exact ⟨rfl, rfl, HX.out.2.trans f2⟩
    · have CW2 := fun w' f => CW true w' f
      have d2 : (s.k != 2) = true := by simpa using k2
      have d3 : (s.k == 2) = false := beq_int_false k2
      rw [decide_eq_true (by simpa using k2 : s.k ≠ 2)]
      simp only [if_true, Bool.true_and] at CW2 ⊢
      clear CW k2
      cases hm : madeOk t.abs p s with
      | false =>
        rw [hm] at CM
        simp only [Bool.false_eq_true, if_false] at CM ⊢
        clear hm
        unfold thrown at *
        go_enter Tryd.func116, Tryd.ntmps116
        go_upto_region 1 with fail
        generalize w.alloc (.cells s.cl.toArray 51) = W0 at *
        go_wp2_with (first
          | refine wpList_ld51 rfl (.tmp 3) rfl w.heap.size rfl s.cl.toArray rfl HX.out.1 ?_
          | refine wpList_ld51 rfl (.tmp 3) rfl w.heap.size rfl s.cl.toArray rfl HX2.out ?_
          | (go_at_call 111; refine C1.mono ?_; rintro e w2 ⟨rfl, f2⟩; have c2 : w2.cell? ⟨w.heap.size, 0, none⟩ = some (.int .i64 s.k) := f2.cell1 c0 (by simp); have HX2 : Hid (w2.heap[w.heap.size]? = some (.cells s.cl.toArray 51 (0, 0))) := (f2.block _ (Array.getElem?_eq_some_iff.1 HX.out.1).1 (by simp)).trans HX.out.1; clear C1)
          | (go_at_call 110; refine (CW2 _ f2).mono ?_; rintro e w3 ⟨rfl, rfl⟩)
          | (go_at_call 115; refine (CM _ f2).mono ?_; rintro e w4 ⟨rfl, f4⟩))
        exact ⟨rfl, rfl, (HX.out.2.trans f2).trans f4⟩
      | true =>
        rw [hm] at CM
        simp only [if_true] at CM ⊢
        clear hm
        go_enter Tryd.func116, Tryd.ntmps116
        go_upto_region 1 with fail
        generalize w.alloc (.cells s.cl.toArray 51) = W0 at *
        go_wp2_with (first
          | refine wpList_ld51 rfl (.tmp 3) rfl w.heap.size rfl s.cl.toArray rfl HX.out.1 ?_
          | refine wpList_ld51 rfl (.tmp 3) rfl w.heap.size rfl s.cl.toArray rfl HX2.out ?_
          | (go_at_call 111; refine C1.mono ?_; rintro e w2 ⟨rfl, f2⟩; have c2 : w2.cell? ⟨w.heap.size, 0, none⟩ = some (.int .i64 s.k) := f2.cell1 c0 (by simp); have HX2 : Hid (w2.heap[w.heap.size]? = some (.cells s.cl.toArray 51 (0, 0))) := (f2.block _ (Array.getElem?_eq_some_iff.1 HX.out.1).1 (by simp)).trans HX.out.1; clear C1)
          | (go_at_call 110; refine (CW2 _ f2).mono ?_; rintro e w3 ⟨rfl, rfl⟩)
          | (go_at_call 115; refine (CM _ f2).mono ?_; rintro e w4 ⟨rfl, f4⟩))
        go_end0
        exact ⟨rfl, (HX.out.2.trans f2).trans f4⟩
/-- The bounds of K. -/
def kB (op : Int) : Int × Int := if op = 4 then (1, 12) else if op = 5 then (13, 15) else if op = 8 ∨ op = 9 ∨ op = 13 ∨ op = 35 then (0, 1000) else if op = 33 ∨ op = 34 then (0, 1000000) else (0, 0)
def cB (op : Int) : Int := if op = 8 ∨ op = 9 ∨ op = 13 then 1000 else 0
set_option maxRecDepth 100000 in
set_option maxHeartbeats 8000000 in
theorem kBounds113 (w : World) (op : Int) : Calls Tryd.prog 113 #[.int .i64 op] w fun e w' => e = .returned (.tuple #[.int .i64 (kB op).1, .int .i64 (kB op).2]) ∧ w' = w := by
  have HK : Hid (kB op = if op = 4 then (1, 12) else if op = 5 then (13, 15) else if op = 8 ∨ op = 9 ∨ op = 13 ∨ op = 35 then (0, 1000) else if op = 33 ∨ op = 34 then (0, 1000000) else (0, 0)) := rfl
  generalize kB op = r at *
  go_enter Tryd.func113, Tryd.ntmps113
  go_wp2
  all_goals
    go_ret2
    refine ⟨?_, rfl⟩
    rw [HK.out]
    clear HK
    simp only [beq_iff_eq, beq_eq_false_iff_ne, ne_eq, Bool.not_eq_true] at *
    simp [*]
set_option maxRecDepth 100000 in
set_option maxHeartbeats 8000000 in
theorem cBound114 (w : World) (op : Int) : Calls Tryd.prog 114 #[.int .i64 op] w fun e w' => e = .returned (.int .i64 (cB op)) ∧ w' = w := by
  have HK : Hid (cB op = if op = 8 ∨ op = 9 ∨ op = 13 then 1000 else 0) := rfl
  generalize cB op = r at *
  go_enter Tryd.func114, Tryd.ntmps114
  go_wp2
  all_goals
    go_ret
    refine ⟨?_, rfl⟩
    rw [HK.out]
    clear HK
    simp only [beq_iff_eq, beq_eq_false_iff_ne, ne_eq, Bool.not_eq_true] at *
    simp [*]
end Go.Proofs.YtkogfgbgmifcnaaDoor
