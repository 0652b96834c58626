/-
  light: where it answers true the list of calls is short, and so is each call's own list; condition: the sum of the lengths is far from the greatest number.
-/
import Derived.Test.YtndjoklinccfjaaHeapN
namespace Go.Proofs.Ytndjoklinccfjaa
open Go.RowKit

/-- A call of the list that is handed in. -/
structure AR where
  d : Int
  vk : Int
  vn : Int
  wk : Int
  wn : Int
  xk : Int
  xn : Int
  rc : Int
  n : Int
  a : Option Addr
  m : Nat
  c : Nat

/-- A call lies at a place. -/
structure AtAct (w : World) (g o : Nat) (x : AR) : Prop where
  c0 : w.cell? ⟨g, o, none⟩ = some (.int .i64 x.d)
  c1 : w.cell? ⟨g, o + 1, none⟩ = some (.int .i64 x.vk)
  c2 : w.cell? ⟨g, o + 2, none⟩ = some (.int .i64 x.vn)
  c3 : w.cell? ⟨g, o + 3, none⟩ = some (.int .i64 x.wk)
  c4 : w.cell? ⟨g, o + 4, none⟩ = some (.int .i64 x.wn)
  c5 : w.cell? ⟨g, o + 5, none⟩ = some (.int .i64 x.xk)
  c6 : w.cell? ⟨g, o + 6, none⟩ = some (.int .i64 x.xn)
  c7 : w.cell? ⟨g, o + 7, none⟩ = some (.int .i64 x.rc)
  c8 : w.cell? ⟨g, o + 8, none⟩ = some (.int .i64 x.n)
  c9 : w.cell? ⟨g, o + 9, none⟩ = some (.slice x.a x.m x.c)

theorem AtAct.below {w w' : World} {B g o : Nat} {x : AR} (h : AtAct w g o x) (b : Below B w w') (hg : g < B) : AtAct w' g o x :=
  ⟨(b.cell (p := ⟨g, o, none⟩) hg).trans h.c0, (b.cell (p := ⟨g, o + 1, none⟩) hg).trans h.c1, (b.cell (p := ⟨g, o + 2, none⟩) hg).trans h.c2, (b.cell (p := ⟨g, o + 3, none⟩) hg).trans h.c3, (b.cell (p := ⟨g, o + 4, none⟩) hg).trans h.c4,
    (b.cell (p := ⟨g, o + 5, none⟩) hg).trans h.c5, (b.cell (p := ⟨g, o + 6, none⟩) hg).trans h.c6, (b.cell (p := ⟨g, o + 7, none⟩) hg).trans h.c7, (b.cell (p := ⟨g, o + 8, none⟩) hg).trans h.c8, (b.cell (p := ⟨g, o + 9, none⟩) hg).trans h.c9⟩

/-- All of a list of calls. -/
def ActsAt (B : Nat) (w : World) (a0 : Option Addr) (L : List AR) : Prop := ∀ i x, L[i]? = some x → ∃ g o, a0 = some ⟨g, o, none⟩ ∧ g < B ∧ AtAct w g (o + i * 10) x

theorem ActsAt.below {B : Nat} {w w' : World} {a0 : Option Addr} {L : List AR} (h : ActsAt B w a0 L) (b : Below B w w') : ActsAt B w' a0 L := fun i x hx => by
  obtain ⟨g, o, e, hg, hA⟩ := h i x hx
  exact ⟨g, o, e, hg, hA.below b hg⟩

/-- How many cells the calls have, and one more each. -/
def tot : List AR → Nat
  | [] => 0
  | x :: r => x.m + 1 + tot r

theorem tot_take_succ : ∀ (L : List AR) (k : Nat) (x : AR), L[k]? = some x → tot (L.take (k + 1)) = tot (L.take k) + (x.m + 1)
  | [], _, _, h => by simp at h
  | y :: r, 0, x, h => by simp at h; subst h; simp [tot]
  | y :: r, k + 1, x, h => by
      have := tot_take_succ r k x (by simpa using h)
      simp only [List.take_succ_cons, tot, this]
      omega
theorem tot_take_le : ∀ (L : List AR) (k : Nat), tot (L.take k) ≤ tot L
  | [], _ => by simp [tot]
  | y :: r, 0 => by simp [tot]
  | y :: r, k + 1 => by
      have := tot_take_le r k
      simp only [List.take_succ_cons, tot]
      omega
theorem tot_len : ∀ (L : List AR), L.length ≤ tot L
  | [] => by simp [tot]
  | y :: r => by
      have := tot_len r
      simp only [List.length_cons, tot]
      omega
theorem tot_at : ∀ (L : List AR) (k : Nat) (x : AR), L[k]? = some x → x.m ≤ tot L
  | [], _, _, h => by simp at h
  | y :: r, 0, x, h => by simp at h; subst h; simp [tot]; omega
  | y :: r, k + 1, x, h => by
      have := tot_at r k x (by simpa using h)
      simp only [tot]
      omega

set_option maxRecDepth 100000 in
set_option maxHeartbeats 1000000 in
theorem light_any (L : List AR) (w : World) (a0 : Option Addr) (len cap : Nat) (B : Nat) (hB : B ≤ w.heap.size) (hlen : L.length = len) (hL : ActsAt B w a0 L) (ht : tot L ≤ 2000000) :
    Calls Try.prog 8 #[.slice a0 len cap] w fun e w' => ∃ v, e = .returned (.bool v) ∧ (v = true → tot L ≤ 500) ∧ Below B w w' := by
  have HT : Hid (tot L ≤ 2000000) := ht
  have HN : Hid (L.length = len) := hlen
  have hlen2 : (len : Int) ≤ 2000000 := by have := tot_len L; omega
  clear ht hlen
  go_enter Try.func8, Try.ntmps8
  go_wp2
  go_loopw [3, 8] (fun s i wr => ∃ k : Nat, k ≤ len ∧ i = .int .i64 k ∧ s = .int .i64 (tot (L.take k) : Nat) ∧ Below B w wr) (fun _ i _ => len - (intOf i).toNat)
  case atStart => exact ⟨0, Nat.zero_le _, rfl, by simp [tot], Below.refl _ _⟩
  case round =>
    obtain ⟨k, hk, rfl, rfl, bw⟩ := hrel
    by_cases hlt : k < len
    · have hx : L[k]? = some (L[k]'(by rw [HN.out]; exact hlt)) := List.getElem?_eq_getElem _
      have HS : Hid (tot (L.take (k + 1)) = tot (L.take k) + ((L[k]'(by rw [HN.out]; exact hlt)).m + 1)) := tot_take_succ L k _ hx
      have hle := tot_take_le L (k + 1)
      obtain ⟨g, o, rfl, hg, hA0⟩ := hL k _ hx
      have hA := hA0.below bw hg
      generalize L[k]'(by rw [HN.out]; exact hlt) = x at *
      obtain ⟨c0, c1, c2, c3, c4, c5, c6, c7, c8, c9⟩ := hA
      have HLE : Hid (tot (L.take k) + (x.m + 1) ≤ 2000000) := by have := HS.out; have := HT.out; unfold Hid; omega
      have hs1 : ((tot (L.take k) : Nat) : Int) + ((x.m : Int) + 1) ≤ 2000000 := by have := HLE.out; omega
      have hm1 : (x.m : Int) ≤ 2000000 := by have := HLE.out; omega
      clear hle hA0 hL hx
      generalize hS : tot (L.take k) = S at *
      have HQ : Hid (tot (L.take (k + 1)) = S + (x.m + 1)) := HS
      have hkn : (k : Int) < (len : Int) := by omega
      have hBs : B ≤ wr.heap.size := by have := bw.size; omega
      clear HS HLE HT HN hS
      by_cases h1 : x.d = 1
      · by_cases h2 : x.vk = 0
        · by_cases h3 : 10000 < x.vn
          · by_cases h4 : x.vn < 20000000
            · go_wp2
              go_ret
              exact ⟨false, rfl, by simp, bw.alloc hBs _⟩
            · go_wp2
              go_roundw
              case rel => exact ⟨k + 1, by omega, by go_num, by rw [HQ.out]; go_num, bw.alloc hBs _⟩
              case measure => simp [intOf]; omega
          · go_wp2
            go_roundw
            case rel => exact ⟨k + 1, by omega, by go_num, by rw [HQ.out]; go_num, bw.alloc hBs _⟩
            case measure => simp [intOf]; omega
        · have h2' : (x.vk == 0) = false := by simpa using h2
          go_wp2
          go_roundw
          case rel => exact ⟨k + 1, by omega, by go_num, by rw [HQ.out]; go_num, bw.alloc hBs _⟩
          case measure => simp [intOf]; omega
      · have h1' : (x.d == 1) = false := by simpa using h1
        go_wp2
        go_roundw
        case rel => exact ⟨k + 1, by omega, by go_num, by rw [HQ.out]; go_num, bw.alloc hBs _⟩
        case measure => simp [intOf]; omega
    · have hkl : k = len := by omega
      have HE : Hid (tot (L.take k) = tot L) := by unfold Hid; rw [List.take_of_length_le (by rw [HN.out]; omega)]
      rw [HE.out]
      have hT2 := HT.out
      go_wp2
      go_ret
      exact ⟨_, rfl, by simp; omega, bw⟩
end Go.Proofs.Ytndjoklinccfjaa
