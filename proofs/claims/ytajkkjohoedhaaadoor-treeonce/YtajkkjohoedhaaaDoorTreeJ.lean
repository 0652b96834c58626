/-
  The chapter's example, and whether nodes are few; conditions: the table lies as the program's text lays it, the list lies as told.
-/
import Derived.Test.YtajkkjohoedhaaaDoorTreeH
import Derived.Test.YtajkkjohoedhaaaDoorTreeI
namespace Go.Proofs.YtajkkjohoedhaaaDoor
open Go.RowKit
set_option linter.unusedVariables false
set_option linter.unusedSimpArgs false

set_option maxRecDepth 100000 in
theorem few_any (B : Nat) (L : List Nd) (w : World) (a : Option Addr) (len cap : Nat) (hlen : L.length = len) (hL : NAt B w a L) (hm : len ≤ 2600000000000) (hB : B ≤ w.heap.size) :
    Calls Tryd.prog 10 #[.slice a len cap] w fun e w' => (∃ v, e = .returned (.bool v)) ∧ Fr [] w w' := by
  have HL : Hid (L.length = len) := hlen
  clear hlen
  go_enter Tryd.func10, Tryd.ntmps10
  go_wp2
  go_loopw [3, 10] (fun s i wr => ∃ (p : Nat) (z : Int), p ≤ len ∧ i = .int .i64 p ∧ s = .int .i64 z ∧ Fr [] w wr) (fun _ i _ => len - (intOf i).toNat)
  case atStart => exact ⟨0, len, Nat.zero_le _, rfl, rfl, Fr.refl _ _⟩
  case round =>
    obtain ⟨p, z, hp, rfl, rfl, fw⟩ := hrel
    by_cases hlt : p < len
    · have hx : L[p]? = some (L[p]'(by rw [HL.out]; exact hlt)) := List.getElem?_eq_getElem _
      generalize L[p]'(by rw [HL.out]; exact hlt) = x at hx
      obtain ⟨b, o, rfl, hb, c⟩ := (hL.fr fw (by simp)) p x hx
      obtain ⟨p0, p1, p2, p3, _, t, k, _, _⟩ := c
      unfold maxLen at t k
      clear hL hx
      go_wp2
      go_roundw
      case rel => exact ⟨p + 1, _, hlt, by go_num, rfl, fw.alloc _⟩
      case measure => simp [intOf]; omega
    · go_wp2
      go_ret
      exact ⟨⟨_, rfl⟩, fw⟩

def exA (k : Nat) : List Nd := [⟨14, ⟨#[]⟩, none, 0, [], 0⟩, ⟨1, ⟨#[]⟩, some ⟨k, 0, none⟩, 1, [0], 0⟩]
def exB (k l : Nat) : List Nd := [⟨4, ⟨#[]⟩, none, 0, [], 0⟩, ⟨3, ⟨#[102]⟩, some ⟨k, 0, none⟩, 1, [0], 0⟩, ⟨1, ⟨#[]⟩, some ⟨l, 0, none⟩, 1, [1], 0⟩]
theorem exA_check (k : Nat) : checkL (exA k) = (1, 53) := rfl
theorem exB_check (k l : Nat) : checkL (exB k l) = (0, 0) := rfl
theorem exB_deep (k l : Nat) : deepL (exB k l) = 3 := rfl
theorem same_refl : ∀ L : List Nd, sameL L L = true
  | [] => rfl
  | x :: L => by rw [sameL, same_refl L]; simp [ndEq, txEq, ksEq]

theorem KAt.one {B : Nat} {w : World} {k : Nat} {v : Int} (h : w.cell? ⟨k, 0, none⟩ = some (.int .i64 v)) (hk : k < B) : KAt B w (some ⟨k, 0, none⟩) [v] := fun j q hq => by
  match j, hq with
  | 0, hq => simp at hq; subst hq; exact ⟨k, 0, rfl, hk, h⟩

theorem exA_at {B : Nat} {w : World} {k g : Nat} (h1 : w.heap[k]? = some (.cells #[.int .i64 0] 3)) (h2 : w.heap[g]? = some (.cells #[.int .i64 14, .string ⟨#[]⟩, .slice none 0 0, .int .i64 0, .int .i64 1, .string ⟨#[]⟩, .slice (some ⟨k, 0, none⟩) 1 1, .int .i64 0] 39)) (hk : k < B) (hg : g < B) : NAt B w (some ⟨g, 0, none⟩) (exA k) := fun i x hx => by
  match i, hx with
  | 0, hx =>
    simp [exA] at hx
    subst hx
    exact ⟨g, 0, rfl, hg, by simp [World.cell?, h2], by simp [World.cell?, h2], by simp [World.cell?, h2], by simp [World.cell?, h2], KAt.nil, Nat.le_of_ble_eq_true rfl, Nat.le_of_ble_eq_true rfl, Nat.le_of_ble_eq_true rfl, fun _ => rfl⟩
  | 1, hx =>
    simp [exA] at hx
    subst hx
    exact ⟨g, 0, rfl, hg, by simp [World.cell?, h2], by simp [World.cell?, h2], by simp [World.cell?, h2], by simp [World.cell?, h2], KAt.one (by simp [World.cell?, h1]) hk, Nat.le_of_ble_eq_true rfl, Nat.le_of_ble_eq_true rfl, Nat.le_of_ble_eq_true rfl, fun h => by cases h⟩
  | n + 2, hx => simp [exA] at hx
theorem exB_at {B : Nat} {w : World} {k l g : Nat} (h0 : w.heap[k]? = some (.cells #[.int .i64 0] 3)) (h1 : w.heap[l]? = some (.cells #[.int .i64 1] 3)) (h2 : w.heap[g]? = some (.cells #[.int .i64 4, .string ⟨#[]⟩, .slice none 0 0, .int .i64 0, .int .i64 3, .string ⟨#[102]⟩, .slice (some ⟨k, 0, none⟩) 1 1, .int .i64 0, .int .i64 1, .string ⟨#[]⟩, .slice (some ⟨l, 0, none⟩) 1 1, .int .i64 0] 39)) (hk : k < B) (hl : l < B) (hg : g < B) : NAt B w (some ⟨g, 0, none⟩) (exB k l) := fun i x hx => by
  match i, hx with
  | 0, hx =>
    simp [exB] at hx
    subst hx
    exact ⟨g, 0, rfl, hg, by simp [World.cell?, h2], by simp [World.cell?, h2], by simp [World.cell?, h2], by simp [World.cell?, h2], KAt.nil, Nat.le_of_ble_eq_true rfl, Nat.le_of_ble_eq_true rfl, Nat.le_of_ble_eq_true rfl, fun _ => rfl⟩
  | 1, hx =>
    simp [exB] at hx
    subst hx
    exact ⟨g, 0, rfl, hg, by simp [World.cell?, h2], by simp [World.cell?, h2], by simp [World.cell?, h2], by simp [World.cell?, h2], KAt.one (by simp [World.cell?, h0]) hk, Nat.le_of_ble_eq_true rfl, Nat.le_of_ble_eq_true rfl, Nat.le_of_ble_eq_true rfl, fun h => by cases h⟩
  | 2, hx =>
    simp [exB] at hx
    subst hx
    exact ⟨g, 0, rfl, hg, by simp [World.cell?, h2], by simp [World.cell?, h2], by simp [World.cell?, h2], by simp [World.cell?, h2], KAt.one (by simp [World.cell?, h1]) hl, Nat.le_of_ble_eq_true rfl, Nat.le_of_ble_eq_true rfl, Nat.le_of_ble_eq_true rfl, fun h => by cases h⟩
  | n + 3, hx => simp [exB] at hx

theorem blk_new (w : World) (o : Obj) : (w.alloc o).heap[w.heap.size]? = some o := heap_alloc_new w o
theorem blk_old {w : World} {k : Nat} {o p : Obj} (h : w.heap[k]? = some o) : (w.alloc p).heap[k]? = some o := (Below.heap_alloc _ _ _ (Array.getElem?_eq_some_iff.1 h).1).trans h

set_option maxRecDepth 100000 in
set_option maxHeartbeats 1000000 in
theorem awake_any (w : World) (TT : Tabs w) :
    Calls Tryd.prog 9 #[] w fun e w' => e = .returned (.bool true) ∧ Fr [] w w' := by
  have z1 : ∀ (w : World) (o : Obj), (w.alloc o).heap.size = w.heap.size + 1 := fun _ _ => by simp
  go_enter Tryd.func9, Tryd.ntmps9
  go_wp2_with fail
  have f0 : Fr [] w ((w.alloc (.cells #[.int .i64 0] 3)).alloc (.cells #[.int .i64 14, .string ⟨#[]⟩, .slice none 0 0, .int .i64 0, .int .i64 1, .string ⟨#[]⟩, .slice (some ⟨w.heap.size, 0, none⟩) 1 1, .int .i64 0] 39)) := ((Fr.refl _ _).alloc _).alloc _
  have A : NAt (w.heap.size + 2) _ (some ⟨w.heap.size + 1, 0, none⟩) (exA w.heap.size) := exA_at (blk_old (blk_new w (.cells #[.int .i64 0] 3))) (by have := blk_new (w.alloc (.cells #[.int .i64 0] 3)) (.cells #[.int .i64 14, .string ⟨#[]⟩, .slice none 0 0, .int .i64 0, .int .i64 1, .string ⟨#[]⟩, .slice (some ⟨w.heap.size, 0, none⟩) 1 1, .int .i64 0] 39); rw [z1] at this; exact this) (by omega) (by omega)
  refine (check_any (w.heap.size + 2) _ _ _ 2 2 rfl A (by omega) (by simp) (TT.fr f0 (by simp))).mono ?_
  rintro e w1 ⟨he, f1⟩
  rw [exA_check, cOut] at he
  subst he
  have F1 := f0.trans f1
  have T1 := TT.fr F1 (by simp)
  clear A f0 f1
  go_wp2_with fail
  have g0 : Fr [] w1 (((w1.alloc (.cells #[.int .i64 0] 3)).alloc (.cells #[.int .i64 1] 3)).alloc (.cells #[.int .i64 4, .string ⟨#[]⟩, .slice none 0 0, .int .i64 0, .int .i64 3, .string ⟨#[102]⟩, .slice (some ⟨w1.heap.size, 0, none⟩) 1 1, .int .i64 0, .int .i64 1, .string ⟨#[]⟩, .slice (some ⟨w1.heap.size + 1, 0, none⟩) 1 1, .int .i64 0] 39)) := (((Fr.refl _ _).alloc _).alloc _).alloc _
  have b0 := blk_old (p := .cells #[.int .i64 1] 3) (blk_new w1 (.cells #[.int .i64 0] 3))
  have b1 := blk_new (w1.alloc (.cells #[.int .i64 0] 3)) (.cells #[.int .i64 1] 3)
  rw [z1] at b1
  have b2 := blk_new ((w1.alloc (.cells #[.int .i64 0] 3)).alloc (.cells #[.int .i64 1] 3)) (.cells #[.int .i64 4, .string ⟨#[]⟩, .slice none 0 0, .int .i64 0, .int .i64 3, .string ⟨#[102]⟩, .slice (some ⟨w1.heap.size, 0, none⟩) 1 1, .int .i64 0, .int .i64 1, .string ⟨#[]⟩, .slice (some ⟨w1.heap.size + 1, 0, none⟩) 1 1, .int .i64 0] 39)
  rw [z1, z1] at b2
  have A := exB_at (B := w1.heap.size + 3) (blk_old b0) (blk_old b1) b2 (by omega) (by omega) (by omega)
  have hz : w1.heap.size + 3 ≤ (((w1.alloc (.cells #[.int .i64 0] 3)).alloc (.cells #[.int .i64 1] 3)).alloc (.cells #[.int .i64 4, .string ⟨#[]⟩, .slice none 0 0, .int .i64 0, .int .i64 3, .string ⟨#[102]⟩, .slice (some ⟨w1.heap.size, 0, none⟩) 1 1, .int .i64 0, .int .i64 1, .string ⟨#[]⟩, .slice (some ⟨w1.heap.size + 1, 0, none⟩) 1 1, .int .i64 0] 39)).heap.size := by rw [z1, z1, z1]; omega
  clear b0 b1 b2
  generalize (((w1.alloc (.cells #[.int .i64 0] 3)).alloc (.cells #[.int .i64 1] 3)).alloc (.cells #[.int .i64 4, .string ⟨#[]⟩, .slice none 0 0, .int .i64 0, .int .i64 3, .string ⟨#[102]⟩, .slice (some ⟨w1.heap.size, 0, none⟩) 1 1, .int .i64 0, .int .i64 1, .string ⟨#[]⟩, .slice (some ⟨w1.heap.size + 1, 0, none⟩) 1 1, .int .i64 0] 39)) = w2 at *
  refine (check_any (w1.heap.size + 3) _ _ _ 3 3 rfl A (by omega) hz (T1.fr g0 (by simp))).mono ?_
  rintro e w3 ⟨he, f3⟩
  rw [exB_check, cOut] at he
  subst he
  have A3 := A.fr f3 (by simp)
  have hz3 := f3.size
  go_wp2_with fail
  refine (deep_any (w1.heap.size + 3) _ _ _ 3 3 rfl A3 (by omega) (by omega)).mono ?_
  rintro e w4 ⟨rfl, f4⟩
  rw [exB_deep]
  have A4 := A3.fr f4 (by simp)
  have hz4 := f4.size
  go_wp2_with fail
  refine (same_any (w1.heap.size + 3) w4 _ _ _ _ 3 3 3 3 rfl rfl (Nat.le_of_ble_eq_true rfl) (Nat.le_of_ble_eq_true rfl) A4 A4 (by omega)).mono ?_
  rintro e w5 ⟨rfl, f5⟩
  rw [same_refl]
  go_wp2
  go_ret
  exact ⟨rfl, F1.trans (g0.trans (f3.trans (f4.trans f5)))⟩
end Go.Proofs.YtajkkjohoedhaaaDoor
