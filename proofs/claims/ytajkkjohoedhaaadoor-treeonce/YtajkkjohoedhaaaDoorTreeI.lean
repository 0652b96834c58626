/-
  Whether lists of nodes are alike, places aside, by the program; condition: the lists lie as told.
-/
import Derived.Test.YtajkkjohoedhaaaDoorTreeG
namespace Go.Proofs.YtajkkjohoedhaaaDoor
open Go.RowKit
set_option linter.unusedVariables false
set_option linter.unusedSimpArgs false

def ksEq (a b : List Int) : Bool := a == b
def txEq (s t : ByteArray) : Bool := s.toList == t.toList
def ndEq (x y : Nd) : Bool := x.kind == y.kind && txEq x.text y.text && ksEq x.ks y.ks
def sameL : List Nd → List Nd → Bool
  | [], [] => true
  | x :: a, y :: b => ndEq x y && sameL a b
  | _, _ => false
theorem same_len : ∀ (a b : List Nd), a.length ≠ b.length → sameL a b = false
  | [], [], h => by simp at h
  | [], _ :: _, _ => rfl
  | _ :: _, [], _ => rfl
  | x :: a, y :: b, h => by rw [sameL, same_len a b (by simpa using h), Bool.and_false]
theorem same_at {a b : List Nd} {p : Nat} {x y : Nd} (hx : a[p]? = some x) (hy : b[p]? = some y) : sameL (a.drop p) (b.drop p) = (ndEq x y && sameL (a.drop (p + 1)) (b.drop (p + 1))) := by
  obtain ⟨h1, e1⟩ := List.getElem?_eq_some_iff.1 hx
  obtain ⟨h2, e2⟩ := List.getElem?_eq_some_iff.1 hy
  rw [List.drop_eq_getElem_cons h1, List.drop_eq_getElem_cons h2, e1, e2, sameL]
theorem ks_at {a b : List Int} {p : Nat} {x y : Int} (hx : a[p]? = some x) (hy : b[p]? = some y) : ksEq (a.drop p) (b.drop p) = ((x == y) && ksEq (a.drop (p + 1)) (b.drop (p + 1))) := by
  obtain ⟨h1, e1⟩ := List.getElem?_eq_some_iff.1 hx
  obtain ⟨h2, e2⟩ := List.getElem?_eq_some_iff.1 hy
  unfold ksEq
  rw [List.drop_eq_getElem_cons h1, List.drop_eq_getElem_cons h2, e1, e2, List.cons_beq_cons]

set_option maxRecDepth 100000 in
theorem equal_any (B : Nat) (w : World) (a b : List Int) (aa ba : Option Addr) (m n ac bc : Nat) (ha : a.length = m) (hb : b.length = n) (hm : m ≤ maxLen) (hn : n ≤ maxLen) (hA : KAt B w aa a) (hBt : KAt B w ba b) :
    Calls Tryd.prog 32 #[.slice aa m ac, .slice ba n bc] w fun e w' => e = .returned (.bool (ksEq a b)) ∧ Fr [] w w' := by
  unfold maxLen at hm hn
  have HA : Hid (a.length = m) := ha
  have HB : Hid (b.length = n) := hb
  clear ha hb
  by_cases hmn : m = n
  · subst hmn
    go_enter Tryd.func32, Tryd.ntmps32
    go_wp2
    go_loopw [13] (fun i wr => ∃ p : Nat, p ≤ m ∧ i = .int .i64 p ∧ Fr [] w wr ∧ Hid (ksEq (a.drop p) (b.drop p) = ksEq a b)) (fun i _ => m - (intOf i).toNat)
    case atStart => exact ⟨0, Nat.zero_le _, rfl, Fr.refl _ _, rfl⟩
    case round =>
      obtain ⟨p, hp, rfl, fw, he⟩ := hrel
      by_cases hlt : p < m
      · have hx : a[p]? = some (a[p]'(by rw [HA.out]; exact hlt)) := List.getElem?_eq_getElem _
        have hy : b[p]? = some (b[p]'(by rw [HB.out]; exact hlt)) := List.getElem?_eq_getElem _
        generalize a[p]'(by rw [HA.out]; exact hlt) = x at hx
        generalize b[p]'(by rw [HB.out]; exact hlt) = y at hy
        obtain ⟨b1, o1, rfl, hb1, c1⟩ := (hA.fr fw (by simp)) p x hx
        obtain ⟨b2, o2, rfl, hb2, c2⟩ := (hBt.fr fw (by simp)) p y hy
        have HS : Hid _ := ks_at hx hy
        clear hx hy hA hBt
        by_cases hxy : x = y
        · subst hxy
          have HR : Hid (ksEq (a.drop (p + 1)) (b.drop (p + 1)) = ksEq a b) := by unfold Hid; rw [← he.out, HS.out]; simp
          clear HS
          go_wp2
          go_quiet (fail)
          go_wp2
          go_roundw
          case rel => exact ⟨p + 1, hlt, by go_num, fw.drewN _, HR⟩
          case measure => simp [intOf]; omega
        · have hxy' : (x == y) = false := by simp [hxy]
          have HR : Hid (ksEq a b = false) := by unfold Hid; rw [← he.out, HS.out, hxy', Bool.false_and]
          clear HS hxy
          go_wp2
          go_quiet (fail)
          go_wp2
          go_ret
          exact ⟨by rw [HR.out]; rfl, fw.drewN _⟩
      · have HE : Hid (ksEq a b = true) := by
          unfold Hid
          rw [← he.out, List.drop_of_length_le (by rw [HA.out]; omega), List.drop_of_length_le (by rw [HB.out]; omega)]
          rfl
        go_wp2
        go_ret
        exact ⟨by rw [HE.out]; rfl, fw⟩
  · have HR : Hid (ksEq a b = false) := by
      unfold Hid ksEq
      rw [Bool.eq_false_iff]
      intro h
      have h2 : a = b := by simpa using h
      apply hmn
      rw [← HA.out, ← HB.out, h2]
    have hne : ((m : Int) == (n : Int)) = false := beq_int_false (by omega)
    go_enter Tryd.func32, Tryd.ntmps32
    go_wp2
    go_ret
    exact ⟨by rw [HR.out]; rfl, Fr.refl _ _⟩

set_option maxRecDepth 100000 in
theorem same1_any (B : Nat) (w : World) (x y : Nd) (hx : KAt B w x.a x.ks) (hy : KAt B w y.a y.ks) (hxl : x.ks.length ≤ maxLen) (hyl : y.ks.length ≤ maxLen) :
    Calls Tryd.prog 31 #[.agg #[.int .i64 x.kind, .string x.text, .slice x.a x.ks.length x.c, .int .i64 x.pl], .agg #[.int .i64 y.kind, .string y.text, .slice y.a y.ks.length y.c, .int .i64 y.pl]] w fun e w' => e = .returned (.bool (ndEq x y)) ∧ Fr [] w w' := by
  have f0 : ∀ o1 o2, Fr [] w ((w.alloc o1).alloc o2) := fun o1 o2 => ((Fr.refl _ _).alloc _).alloc _
  have C := fun w' (f : Fr [] w w') => equal_any B w' x.ks y.ks x.a y.a x.ks.length y.ks.length x.c y.c rfl rfl hxl hyl (hx.fr f (by simp)) (hy.fr f (by simp))
  have HE : Hid (ndEq x y = (x.kind == y.kind && (x.text.toList == y.text.toList) && ksEq x.ks y.ks)) := rfl
  generalize ksEq x.ks y.ks = kq at *
  by_cases h1 : x.kind = y.kind
  · cases h2 : (x.text.toList == y.text.toList) with
    | true =>
      have HR : Hid (ndEq x y = kq) := by unfold Hid; rw [HE.out, h2, h1]; simp
      clear HE
      go_enter Tryd.func31, Tryd.ntmps31
      go_wp2_with (go_at_call 32; refine (C _ (f0 _ _)).mono ?_; rintro e w' ⟨rfl, f1⟩)
      go_ret
      exact ⟨by rw [HR.out]; rfl, (f0 _ _).trans f1⟩
    | false =>
      have HR : Hid (ndEq x y = false) := by unfold Hid; rw [HE.out, h2]; simp
      clear HE
      go_enter Tryd.func31, Tryd.ntmps31
      go_wp2_with (go_at_call 32; refine (C _ (f0 _ _)).mono ?_; rintro e w' ⟨rfl, f1⟩)
      go_ret
      exact ⟨by rw [HR.out]; rfl, f0 _ _⟩
  · have h1' : (x.kind == y.kind) = false := by simp [h1]
    have HR : Hid (ndEq x y = false) := by unfold Hid; rw [HE.out, h1']; simp
    clear HE
    go_enter Tryd.func31, Tryd.ntmps31
    go_wp2_with (go_at_call 32; refine (C _ (f0 _ _)).mono ?_; rintro e w' ⟨rfl, f1⟩)
    all_goals first | (exfalso; omega) | skip
    go_ret
    exact ⟨by rw [HR.out]; rfl, f0 _ _⟩

set_option maxRecDepth 100000 in
set_option maxHeartbeats 1000000 in
theorem equalFunc_any (B : Nat) (w : World) (L M : List Nd) (a b : Option Addr) (m n ac bc : Nat) (ha : L.length = m) (hb : M.length = n) (hm : m ≤ maxLen) (hn : n ≤ maxLen) (hA : NAt B w a L) (hBt : NAt B w b M) :
    Calls Tryd.prog 30 #[.slice a m ac, .slice b n bc, .func (.func 31) #[] #[]] w fun e w' => e = .returned (.bool (sameL L M)) ∧ Fr [] w w' := by
  unfold maxLen at hm hn
  have HA : Hid (L.length = m) := ha
  have HB : Hid (M.length = n) := hb
  clear ha hb
  by_cases hmn : m = n
  · subst hmn
    go_enter Tryd.func30, Tryd.ntmps30
    go_wp2
    go_loopw [17] (fun i wr => ∃ p : Nat, p ≤ m ∧ i = .int .i64 p ∧ Fr [] w wr ∧ Hid (sameL (L.drop p) (M.drop p) = sameL L M)) (fun i _ => m - (intOf i).toNat)
    case atStart => exact ⟨0, Nat.zero_le _, rfl, Fr.refl _ _, rfl⟩
    case round =>
      obtain ⟨p, hp, rfl, fw, he⟩ := hrel
      by_cases hlt : p < m
      · have hx : L[p]? = some (L[p]'(by rw [HA.out]; exact hlt)) := List.getElem?_eq_getElem _
        have hy : M[p]? = some (M[p]'(by rw [HB.out]; exact hlt)) := List.getElem?_eq_getElem _
        generalize L[p]'(by rw [HA.out]; exact hlt) = x at hx
        generalize M[p]'(by rw [HB.out]; exact hlt) = y at hy
        obtain ⟨b1, o1, rfl, hb1, c1⟩ := (hA.fr fw (by simp)) p x hx
        obtain ⟨b2, o2, rfl, hb2, c2⟩ := (hBt.fr fw (by simp)) p y hy
        have HS : Hid _ := same_at hx hy
        clear hx hy hA hBt
        have l1 := World.block_lt_of_cell? wr _ c1.c0
        have l2 := World.block_lt_of_cell? wr _ c2.c0
        simp only at l1 l2
        have f0 : ∀ o1 o2, Fr [] wr ((wr.alloc o1).alloc o2) := fun o1 o2 => ((Fr.refl _ _).alloc _).alloc _
        have C := fun w' (f : Fr [] wr w') => same1_any B w' x y (c1.k.fr f (by simp)) (c2.k.fr f (by simp)) c1.kl c2.kl
        obtain ⟨p0, p1, p2, p3, _, _, _, _, _⟩ := c1
        obtain ⟨q0, q1, q2, q3, _, _, _, _, _⟩ := c2
        cases hr : ndEq x y with
        | true =>
          rw [hr] at C
          have HR : Hid (sameL (L.drop (p + 1)) (M.drop (p + 1)) = sameL L M) := by unfold Hid; rw [← he.out, HS.out, hr]; simp
          clear HS hr
          go_wp2_with (go_at_call 31; refine (C _ (f0 _ _)).mono ?_; rintro e w' ⟨rfl, f1⟩)
          go_roundw
          case rel => exact ⟨p + 1, hlt, by go_num, fw.trans ((f0 _ _).trans f1), HR⟩
          case measure => simp [intOf]; omega
        | false =>
          rw [hr] at C
          have HR : Hid (sameL L M = false) := by unfold Hid; rw [← he.out, HS.out, hr]; simp
          clear HS hr
          go_wp2_with (go_at_call 31; refine (C _ (f0 _ _)).mono ?_; rintro e w' ⟨rfl, f1⟩)
          go_ret
          exact ⟨by rw [HR.out]; rfl, fw.trans ((f0 _ _).trans f1)⟩
      · have HE : Hid (sameL L M = true) := by
          unfold Hid
          rw [← he.out, List.drop_of_length_le (by rw [HA.out]; omega), List.drop_of_length_le (by rw [HB.out]; omega)]
          rfl
        go_wp2
        go_ret
        exact ⟨by rw [HE.out]; rfl, fw⟩
  · have HR : Hid (sameL L M = false) := same_len L M (by rw [HA.out, HB.out]; exact hmn)
    have hne : ((m : Int) == (n : Int)) = false := beq_int_false (by omega)
    go_enter Tryd.func30, Tryd.ntmps30
    go_wp2
    go_ret
    exact ⟨by rw [HR.out]; rfl, Fr.refl _ _⟩

set_option maxRecDepth 100000 in
set_option maxHeartbeats 1000000 in
theorem same_any (B : Nat) (w : World) (L M : List Nd) (a b : Option Addr) (m n ac bc : Nat) (ha : L.length = m) (hb : M.length = n) (hm : m ≤ maxLen) (hn : n ≤ maxLen) (hA : NAt B w a L) (hBt : NAt B w b M) (hB : B ≤ w.heap.size) :
    Calls Tryd.prog 18 #[.slice a m ac, .slice b n bc] w fun e w' => e = .returned (.bool (sameL L M)) ∧ Fr [] w w' := by
  go_enter Tryd.func18, Tryd.ntmps18
  go_wp2_with (go_at_call 30; refine (equalFunc_any B w L M a b m n ac bc ha hb hm hn hA hBt).mono ?_; rintro e w' ⟨rfl, f1⟩)
  go_ret
  exact ⟨rfl, f1⟩
end Go.Proofs.YtajkkjohoedhaaaDoor
