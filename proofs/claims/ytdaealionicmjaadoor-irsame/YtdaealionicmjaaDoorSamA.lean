/-
  Whether code is alike, by the program; conditions: the code lies as told.
-/
import Derived.Test.YtdaealionicmjaaDoorIrY
namespace Go.Proofs.YtdaealionicmjaaDoor
open Go.RowKit
set_option linter.unusedVariables false
set_option linter.unusedSimpArgs false

def insEq : List In → List In → Bool
  | [], [] => true
  | x :: a, y :: b => inEq x y && insEq a b
  | _, _ => false
theorem insEq_len : ∀ (a b : List In), a.length ≠ b.length → insEq a b = false
  | [], [], h => by simp at h
  | [], _ :: _, _ => rfl
  | _ :: _, [], _ => rfl
  | x :: a, y :: b, h => by rw [insEq, insEq_len a b (by simpa using h), Bool.and_false]
theorem insEq_at {a b : List In} {p : Nat} {x y : In} (hx : a[p]? = some x) (hy : b[p]? = some y) : insEq (a.drop p) (b.drop p) = (inEq x y && insEq (a.drop (p + 1)) (b.drop (p + 1))) := by
  obtain ⟨h1, e1⟩ := List.getElem?_eq_some_iff.1 hx
  obtain ⟨h2, e2⟩ := List.getElem?_eq_some_iff.1 hy
  rw [List.drop_eq_getElem_cons h1, List.drop_eq_getElem_cons h2, e1, e2, insEq]
def fuEq (x y : Fu) : Bool := (x.name.toList == y.name.toList) && x.ps == y.ps && x.rs == y.rs && insEq x.code y.code
def fusEq : List Fu → List Fu → Bool
  | [], [] => true
  | x :: a, y :: b => fuEq x y && fusEq a b
  | _, _ => false
theorem fusEq_len : ∀ (a b : List Fu), a.length ≠ b.length → fusEq a b = false
  | [], [], h => by simp at h
  | [], _ :: _, _ => rfl
  | _ :: _, [], _ => rfl
  | x :: a, y :: b, h => by rw [fusEq, fusEq_len a b (by simpa using h), Bool.and_false]
theorem fusEq_at {a b : List Fu} {p : Nat} {x y : Fu} (hx : a[p]? = some x) (hy : b[p]? = some y) : fusEq (a.drop p) (b.drop p) = (fuEq x y && fusEq (a.drop (p + 1)) (b.drop (p + 1))) := by
  obtain ⟨h1, e1⟩ := List.getElem?_eq_some_iff.1 hx
  obtain ⟨h2, e2⟩ := List.getElem?_eq_some_iff.1 hy
  rw [List.drop_eq_getElem_cons h1, List.drop_eq_getElem_cons h2, e1, e2, fusEq]
def cdEq (F : List Fu) (mn mg : Int) (G : List Fu) (mn' mg' : Int) : Bool := mn == mn' && mg == mg' && fusEq F G
theorem inEq_refl (x : In) : inEq x x = true := by simp [inEq, ksEq]
theorem insEq_refl : ∀ a : List In, insEq a a = true
  | [] => rfl
  | x :: a => by rw [insEq, inEq_refl, insEq_refl a]; rfl
theorem fusEq_refl : ∀ a : List Fu, fusEq a a = true
  | [] => rfl
  | x :: a => by rw [fusEq, fusEq_refl a]; simp [fuEq, insEq_refl]
theorem inEq_comm (x y : In) : inEq x y = inEq y x := by
  unfold inEq ksEq
  rw [Bool.eq_iff_iff]
  simp
  constructor <;> (rintro ⟨⟨⟨⟨⟨h1, h2⟩, h3⟩, h4⟩, h5⟩, h6⟩; exact ⟨⟨⟨⟨⟨h1.symm, h2.symm⟩, h3.symm⟩, h4.symm⟩, h5.symm⟩, h6.symm⟩)
theorem insEq_comm : ∀ a b : List In, insEq a b = insEq b a
  | [], [] => rfl
  | [], _ :: _ => rfl
  | _ :: _, [] => rfl
  | x :: a, y :: b => by rw [insEq, insEq, inEq_comm, insEq_comm a b]
theorem fuEq_comm (x y : Fu) : fuEq x y = fuEq y x := by
  unfold fuEq
  rw [insEq_comm, Bool.eq_iff_iff]
  simp
  intro _
  constructor <;> (rintro ⟨⟨h1, h2⟩, h3⟩; exact ⟨⟨h1.symm, h2.symm⟩, h3.symm⟩)
theorem fusEq_comm : ∀ a b : List Fu, fusEq a b = fusEq b a
  | [], [] => rfl
  | [], _ :: _ => rfl
  | _ :: _, [] => rfl
  | x :: a, y :: b => by rw [fusEq, fusEq, fuEq_comm, fusEq_comm a b]
theorem cdEq_refl (F : List Fu) (mn mg : Int) : cdEq F mn mg F mn mg = true := by simp [cdEq, fusEq_refl]
theorem cdEq_comm (F : List Fu) (mn mg : Int) (G : List Fu) (mn' mg' : Int) : cdEq F mn mg G mn' mg' = cdEq G mn' mg' F mn mg := by
  unfold cdEq
  rw [fusEq_comm, Bool.eq_iff_iff]
  simp
  intro _
  constructor <;> (rintro ⟨h1, h2⟩; exact ⟨h1.symm, h2.symm⟩)

set_option maxRecDepth 100000 in
set_option maxHeartbeats 2000000 in
theorem equalIns_any (B : Nat) (w : World) (L M : List In) (a b : Option Addr) (m n ac bc : Nat) (ha : L.length = m) (hb : M.length = n) (hm : m ≤ 20000000000000) (hn : n ≤ 20000000000000) (hA : IAt B w a L) (hBt : IAt B w b M) :
    Calls Tryd.prog 50 #[.slice a m ac, .slice b n bc, .func (.func 51) #[] #[]] w fun e w' => e = .returned (.bool (insEq L M)) ∧ Fr [] w w' := by
  have HA : Hid (L.length = m) := ha
  have HB : Hid (M.length = n) := hb
  have hmI : (m : Int) ≤ 20000000000000 := by omega
  have hnI : (n : Int) ≤ 20000000000000 := by omega
  clear ha hb
  by_cases hmn : m = n
  · subst hmn
    go_enter Tryd.func50, Tryd.ntmps50
    go_wp2
    go_loopw [7, 8, 9, 17] (fun _ _ _ i wr => ∃ p : Nat, p ≤ m ∧ i = .int .i64 p ∧ Fr [] w wr ∧ Hid (insEq (L.drop p) (M.drop p) = insEq L M)) (fun _ _ _ i _ => m - (intOf i).toNat)
    case atStart => exact ⟨0, Nat.zero_le _, rfl, Fr.refl _ _, rfl⟩
    case round =>
      obtain ⟨p, hp, rfl, fw, he⟩ := hrel
      by_cases hlt : p < m
      · have hx : L[p]? = some (L[p]'(by rw [HA.out]; exact hlt)) := List.getElem?_eq_getElem _
        have hy : M[p]? = some (M[p]'(by rw [HB.out]; exact hlt)) := List.getElem?_eq_getElem _
        generalize L[p]'(by rw [HA.out]; exact hlt) = x at hx
        generalize M[p]'(by rw [HB.out]; exact hlt) = y at hy
        obtain ⟨b1, o1, rfl, hb1, c1⟩ := (hA.fr fw (by simp)) p x hx
        obtain ⟨b2, o2, rfl, hb2, c2⟩ := (hBt.fr fw (by simp)) p y hy
        have HS : Hid _ := insEq_at hx hy
        clear hx hy hA hBt
        have l1 := World.block_lt_of_cell? wr _ c1.c0
        have l2 := World.block_lt_of_cell? wr _ c2.c0
        simp only at l1 l2
        have f0 : ∀ o1 o2, Fr [] wr ((wr.alloc o1).alloc o2) := fun o1 o2 => ((Fr.refl _ _).alloc _).alloc _
        have C := fun w' (f : Fr [] wr w') => sameIns_any B w' x y (c1.ok.fr f (by simp)) (c2.ok.fr f (by simp))
        unfold In.arr at C
        obtain ⟨p0, p1, p2, p3, p4, p5, _⟩ := c1
        obtain ⟨q0, q1, q2, q3, q4, q5, _⟩ := c2
        cases hr : inEq x y with
        | true =>
          rw [hr] at C
          have HR : Hid (insEq (L.drop (p + 1)) (M.drop (p + 1)) = insEq L M) := by unfold Hid; rw [← he.out, HS.out, hr]; simp
          clear HS hr
          go_wp2_with (go_at_call 51; with_reducible (refine (C _ (f0 _ _)).mono ?_); rintro e w' ⟨rfl, f1⟩)
          go_roundw
          case rel => exact ⟨p + 1, hlt, by go_num, fw.trans ((f0 _ _).trans f1), HR⟩
          case measure => simp [intOf]; omega
        | false =>
          rw [hr] at C
          have HR : Hid (insEq L M = false) := by unfold Hid; rw [← he.out, HS.out, hr]; simp
          clear HS hr
          go_wp2_with (go_at_call 51; with_reducible (refine (C _ (f0 _ _)).mono ?_); rintro e w' ⟨rfl, f1⟩)
          go_ret
          exact ⟨by rw [HR.out]; rfl, fw.trans ((f0 _ _).trans f1)⟩
      · have HE : Hid (insEq L M = true) := by
          unfold Hid
          rw [← he.out, List.drop_of_length_le (by rw [HA.out]; omega), List.drop_of_length_le (by rw [HB.out]; omega)]
          rfl
        go_wp2
        go_ret
        exact ⟨by rw [HE.out]; rfl, fw⟩
  · have HR : Hid (insEq L M = false) := insEq_len L M (by rw [HA.out, HB.out]; exact hmn)
    have hne : ((m : Int) == (n : Int)) = false := beq_int_false (by omega)
    go_enter Tryd.func50, Tryd.ntmps50
    go_wp2
    go_ret
    exact ⟨by rw [HR.out]; rfl, Fr.refl _ _⟩

set_option maxRecDepth 100000 in
set_option maxHeartbeats 2000000 in
theorem sameFunc_any (B : Nat) (w : World) (x y : Fu) (hx : FuOk B w x) (hy : FuOk B w y) :
    Calls Tryd.prog 38 #[.agg x.arr, .agg y.arr] w fun e w' => e = .returned (.bool (fuEq x y)) ∧ Fr [] w w' := by
  have f0 : ∀ o1 o2, Fr [] w ((w.alloc o1).alloc o2) := fun o1 o2 => ((Fr.refl _ _).alloc _).alloc _
  have C := fun w' (f : Fr [] w w') => equalIns_any B w' x.code y.code x.ca y.ca x.code.length y.code.length x.cc y.cc rfl rfl hx.kl hy.kl (hx.k.fr f (by simp)) (hy.k.fr f (by simp))
  have HE : Hid (fuEq x y = ((x.name.toList == y.name.toList) && x.ps == y.ps && x.rs == y.rs && insEq x.code y.code)) := rfl
  generalize insEq x.code y.code = kq at *
  unfold Fu.arr
  cases h1 : (x.name.toList == y.name.toList) with
  | false =>
    have HR : Hid (fuEq x y = false) := by unfold Hid; rw [HE.out, h1]; rfl
    clear HE C hx hy
    go_enter Tryd.func38, Tryd.ntmps38
    go_wp2
    go_ret
    exact ⟨by rw [HR.out]; rfl, f0 _ _⟩
  | true =>
    by_cases h2 : x.ps = y.ps
    · have d2 : (x.ps == y.ps) = true := by simpa using h2
      by_cases h3 : x.rs = y.rs
      · have d3 : (x.rs == y.rs) = true := by simpa using h3
        have HR : Hid (fuEq x y = kq) := by unfold Hid; rw [HE.out, h1, d2, d3]; simp
        clear HE hx hy h2 h3
        go_enter Tryd.func38, Tryd.ntmps38
        go_wp2_with (go_at_call 50; with_reducible (refine (C _ (f0 _ _)).mono ?_); rintro e w' ⟨rfl, f1⟩)
        go_ret
        exact ⟨by rw [HR.out]; rfl, (f0 _ _).trans f1⟩
      · have d3 : (x.rs == y.rs) = false := by simpa using h3
        have HR : Hid (fuEq x y = false) := by unfold Hid; rw [HE.out, d3]; simp
        clear HE hx hy h2 h3 C
        go_enter Tryd.func38, Tryd.ntmps38
        go_wp2
        go_ret
        exact ⟨by rw [HR.out]; rfl, f0 _ _⟩
    · have d2 : (x.ps == y.ps) = false := by simpa using h2
      have HR : Hid (fuEq x y = false) := by unfold Hid; rw [HE.out, d2]; simp
      clear HE hx hy h2 C
      go_enter Tryd.func38, Tryd.ntmps38
      go_wp2
      go_ret
      exact ⟨by rw [HR.out]; rfl, f0 _ _⟩

set_option maxRecDepth 100000 in
set_option maxHeartbeats 2000000 in
theorem equalFus_any (B : Nat) (w : World) (L M : List Fu) (a b : Option Addr) (m n ac bc : Nat) (ha : L.length = m) (hb : M.length = n) (hm : m ≤ 20000000000000) (hn : n ≤ 20000000000000) (hA : FAt B w a L) (hBt : FAt B w b M) :
    Calls Tryd.prog 37 #[.slice a m ac, .slice b n bc, .func (.func 38) #[] #[]] w fun e w' => e = .returned (.bool (fusEq L M)) ∧ Fr [] w w' := by
  have HA : Hid (L.length = m) := ha
  have HB : Hid (M.length = n) := hb
  have hmI : (m : Int) ≤ 20000000000000 := by omega
  have hnI : (n : Int) ≤ 20000000000000 := by omega
  clear ha hb
  by_cases hmn : m = n
  · subst hmn
    go_enter Tryd.func37, Tryd.ntmps37
    go_wp2
    go_loopw [7, 8, 9, 17] (fun _ _ _ i wr => ∃ p : Nat, p ≤ m ∧ i = .int .i64 p ∧ Fr [] w wr ∧ Hid (fusEq (L.drop p) (M.drop p) = fusEq L M)) (fun _ _ _ i _ => m - (intOf i).toNat)
    case atStart => exact ⟨0, Nat.zero_le _, rfl, Fr.refl _ _, rfl⟩
    case round =>
      obtain ⟨p, hp, rfl, fw, he⟩ := hrel
      by_cases hlt : p < m
      · have hx : L[p]? = some (L[p]'(by rw [HA.out]; exact hlt)) := List.getElem?_eq_getElem _
        have hy : M[p]? = some (M[p]'(by rw [HB.out]; exact hlt)) := List.getElem?_eq_getElem _
        generalize L[p]'(by rw [HA.out]; exact hlt) = x at hx
        generalize M[p]'(by rw [HB.out]; exact hlt) = y at hy
        obtain ⟨b1, o1, rfl, hb1, c1⟩ := (hA.fr fw (by simp)) p x hx
        obtain ⟨b2, o2, rfl, hb2, c2⟩ := (hBt.fr fw (by simp)) p y hy
        have HS : Hid _ := fusEq_at hx hy
        clear hx hy hA hBt
        have l1 := World.block_lt_of_cell? wr _ c1.c0
        have l2 := World.block_lt_of_cell? wr _ c2.c0
        simp only at l1 l2
        have f0 : ∀ o1 o2, Fr [] wr ((wr.alloc o1).alloc o2) := fun o1 o2 => ((Fr.refl _ _).alloc _).alloc _
        have C := fun w' (f : Fr [] wr w') => sameFunc_any B w' x y (c1.ok.fr f (by simp)) (c2.ok.fr f (by simp))
        unfold Fu.arr at C
        obtain ⟨p0, p1, p2, p3, _⟩ := c1
        obtain ⟨q0, q1, q2, q3, _⟩ := c2
        cases hr : fuEq x y with
        | true =>
          rw [hr] at C
          have HR : Hid (fusEq (L.drop (p + 1)) (M.drop (p + 1)) = fusEq L M) := by unfold Hid; rw [← he.out, HS.out, hr]; simp
          clear HS hr
          go_wp2_with (go_at_call 38; with_reducible (refine (C _ (f0 _ _)).mono ?_); rintro e w' ⟨rfl, f1⟩)
          go_roundw
          case rel => exact ⟨p + 1, hlt, by go_num, fw.trans ((f0 _ _).trans f1), HR⟩
          case measure => simp [intOf]; omega
        | false =>
          rw [hr] at C
          have HR : Hid (fusEq L M = false) := by unfold Hid; rw [← he.out, HS.out, hr]; simp
          clear HS hr
          go_wp2_with (go_at_call 38; with_reducible (refine (C _ (f0 _ _)).mono ?_); rintro e w' ⟨rfl, f1⟩)
          go_ret
          exact ⟨by rw [HR.out]; rfl, fw.trans ((f0 _ _).trans f1)⟩
      · have HE : Hid (fusEq L M = true) := by
          unfold Hid
          rw [← he.out, List.drop_of_length_le (by rw [HA.out]; omega), List.drop_of_length_le (by rw [HB.out]; omega)]
          rfl
        go_wp2
        go_ret
        exact ⟨by rw [HE.out]; rfl, fw⟩
  · have HR : Hid (fusEq L M = false) := fusEq_len L M (by rw [HA.out, HB.out]; exact hmn)
    have hne : ((m : Int) == (n : Int)) = false := beq_int_false (by omega)
    go_enter Tryd.func37, Tryd.ntmps37
    go_wp2
    go_ret
    exact ⟨by rw [HR.out]; rfl, Fr.refl _ _⟩

set_option maxRecDepth 100000 in
set_option maxHeartbeats 2000000 in
theorem same_any (B : Nat) (w : World) (F G : List Fu) (fa0 fa1 : Option Addr) (len0 len1 cap0 cap1 : Nat) (mn0 mg0 mn1 mg1 : Int) (hF : F.length = len0) (hG : G.length = len1) (h0 : len0 ≤ 20000000000000) (h1 : len1 ≤ 20000000000000) (hA : FAt B w fa0 F) (hB : FAt B w fa1 G) :
    Calls Tryd.prog 21 #[.agg #[.slice fa0 len0 cap0, .int .i64 mn0, .int .i64 mg0], .agg #[.slice fa1 len1 cap1, .int .i64 mn1, .int .i64 mg1]] w fun e w' => e = .returned (.bool (cdEq F mn0 mg0 G mn1 mg1)) ∧ Fr [] w w' := by
  have f0 : ∀ o1 o2, Fr [] w ((w.alloc o1).alloc o2) := fun o1 o2 => ((Fr.refl _ _).alloc _).alloc _
  have C := fun w' (f : Fr [] w w') => equalFus_any B w' F G fa0 fa1 len0 len1 cap0 cap1 hF hG h0 h1 (hA.fr f (by simp)) (hB.fr f (by simp))
  have HE : Hid (cdEq F mn0 mg0 G mn1 mg1 = (mn0 == mn1 && mg0 == mg1 && fusEq F G)) := rfl
  generalize fusEq F G = kq at *
  clear hF hG hA hB
  by_cases h2 : mn0 = mn1
  · have d2 : (mn0 == mn1) = true := by simpa using h2
    by_cases h3 : mg0 = mg1
    · have d3 : (mg0 == mg1) = true := by simpa using h3
      have HR : Hid (cdEq F mn0 mg0 G mn1 mg1 = kq) := by unfold Hid; rw [HE.out, d2, d3]; simp
      clear HE h2 h3
      go_enter Tryd.func21, Tryd.ntmps21
      go_wp2_with (go_at_call 37; with_reducible (refine (C _ (f0 _ _)).mono ?_); rintro e w' ⟨rfl, f1⟩)
      go_ret
      exact ⟨by rw [HR.out]; rfl, (f0 _ _).trans f1⟩
    · have d3 : (mg0 == mg1) = false := by simpa using h3
      have HR : Hid (cdEq F mn0 mg0 G mn1 mg1 = false) := by unfold Hid; rw [HE.out, d3]; simp
      clear HE h2 h3 C
      go_enter Tryd.func21, Tryd.ntmps21
      go_wp2
      go_ret
      exact ⟨by rw [HR.out]; rfl, f0 _ _⟩
  · have d2 : (mn0 == mn1) = false := by simpa using h2
    have HR : Hid (cdEq F mn0 mg0 G mn1 mg1 = false) := by unfold Hid; rw [HE.out, d2]; simp
    clear HE h2 C
    go_enter Tryd.func21, Tryd.ntmps21
    go_wp2
    go_ret
    exact ⟨by rw [HR.out]; rfl, f0 _ _⟩
end Go.Proofs.YtdaealionicmjaaDoor
