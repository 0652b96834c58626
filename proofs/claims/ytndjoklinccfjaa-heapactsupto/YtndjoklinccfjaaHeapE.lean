/-
  HeapLimits returns true and writes to nothing that was there, told of values and worlds; condition: the cells of its list can be read.
-/
import Derived.Test.YtndjoklinccfjaaHeapD
namespace Go.Proofs.Ytndjoklinccfjaa
open Go.RowKit

theorem Rep.below {w w' : World} {S : List Nat} {B b : Nat} {lim used : Int} {sv : Value} {rk rn : Int} {T : List Thing} (h : Rep w B b lim used sv rk rn T) (f : Fr S w w') (hS : ∀ k, k ∈ S → k ∈ b :: sv.ownBlock.toList) {w0 : World} {N : Nat} (hN : N ≤ B) (h0 : Below N w0 w) : Below N w0 w' := by
  have hlt := h.hb.lt
  have hb := h.base
  refine h0.trans (f.below (by omega) ?_)
  intro k hk
  have := hS k hk
  simp only [List.mem_cons, Option.mem_toList] at this
  rcases this with rfl | e
  · omega
  · have := (h.row.lt k e).1; omega

set_option maxHeartbeats 1000000 in
theorem limits_pos (l : Int) (hl : 0 ≤ l) (hl2 : l ≤ 2000) (a0 : Option Addr) (len cap : Nat) (zs : List Int) (w : World) (hlen : (len : Int) ≤ 50)
    (ha : ∀ i, i < len → ∃ sb so, a0 = some ⟨sb, so, none⟩ ∧ sb < w.heap.size ∧ w.cell? ⟨sb, so + i, none⟩ = some (.int .i64 (zs.getD i 0))) :
    Calls Try.prog 6 #[.int .i64 l, .slice a0 len cap] w fun e w' => e = .returned (.bool true) ∧ Below w.heap.size w w' := by
  have hcap : Hid (cap0 l = l) := by unfold Hid cap0; (try rw [if_pos hl]); (try rw [if_neg (by omega), if_neg (by omega)])
  go_enter Try.func6, Try.ntmps6
  go_wp2_with fail
  refine (awake_any _).mono ?_
  rintro e w1 ⟨rfl, f1⟩
  have B1 : Below w.heap.size w w1 := f1.below (Nat.le_refl _) (by simp)
  have z1 := f1.size
  go_wp2_with fail
  refine (new_any l _).mono ?_
  rintro e w2 ⟨rfl, rfl⟩
  have R0 := Rep.new w1 l
  have B2 : Below w.heap.size w (w1.alloc (.cells #[.bool true, .int .i64 (cap0 l), .int .i64 0, .slice none 0 0, .int .i64 0, .int .i64 0] 61)) := B1.alloc z1 _
  rw [hcap.out] at R0 B2 ⊢
  generalize w1.alloc (.cells #[.bool true, .int .i64 (l), .int .i64 0, .slice none 0 0, .int .i64 0, .int .i64 0] 61) = w2 at *
  generalize w1.heap.size = b at *
  clear f1 B1
  go_wp2
  go_loopw [6, 28] (fun lf i wr => ∃ (k : Nat) (L used : Int) (sv : Value) (T : List Thing), k ≤ len ∧ i = .int .i64 k ∧ lf = .int .i64 L ∧ L + used ≤ l ∧ l ≤ L + used ∧ 0 ≤ used ∧ 0 ≤ L ∧ T.length ≤ k ∧ Rep wr b b (l) used sv 0 0 T ∧ Below w.heap.size w wr) (fun _ i _ => len - (intOf i).toNat)
  case atStart => exact ⟨0, l, 0, _, _, Nat.zero_le _, rfl, rfl, by omega, by omega, by omega, by omega, Nat.zero_le _, R0, B2⟩
  case round =>
    obtain ⟨k, L, used, sv, T, hk, rfl, rfl, e1, e2, e3, e4, hT, R, BW⟩ := hrel
    clear R0 B2
    by_cases hlt : k < len
    · obtain ⟨sb, so, rfl, hsb, hcell⟩ := ha k hlt
      have hc := (BW.cell (p := ⟨sb, so + k, none⟩) hsb).trans hcell
      clear hcell
      generalize zs.getD k 0 = n at hc
      by_cases hneg : n < 0
      · go_wp2
        go_roundw
        case rel => exact ⟨k + 1, L, used, sv, T, by omega, by go_num, rfl, e1, e2, e3, e4, by omega, R, BW⟩
        case measure => simp [intOf]; omega
      · by_cases hbig : 1000 < n
        · go_wp2
          go_roundw
          case rel => exact ⟨k + 1, L, used, sv, T, by omega, by go_num, rfl, e1, e2, e3, e4, by omega, R, BW⟩
          case measure => simp [intOf]; omega
        · by_cases hroom : n < L
          · go_wp2_with fail
            refine (rec_int R 1 n (by omega) (by omega) (by omega) (by omega) e3 (by omega) (by omega) (by omega) (by omega)).mono ?_
            rintro e w3 ⟨rfl, sv3, t3, R3, -, -, -, f3, k3⟩
            have BW3 := R.below f3 (fun _ h => h) z1 BW
            have R4 : Rep (w3.alloc (.cells #[.int .i64 2, .int .i64 (T.length : Int)] 30)) b b (l) (used + (1 + n)) sv3 0 0 (T ++ [t3]) := R3.frame (S := []) ((Fr.refl _ _).alloc _) (by simp)
            have BW4 := BW3.alloc (o := .cells #[.int .i64 2, .int .i64 (T.length : Int)] 30) (by have := BW3.size; omega)
            clear R f3 k3 BW BW3
            go_wp2_with (first | (go_at_call 12; refine (used_any _ R4.hb).mono ?_; rintro e w' ⟨rfl, rfl⟩))
            go_roundw
            case rel => exact ⟨k + 1, L - (1 + n), used + (1 + n), sv3, T ++ [t3], by omega, by go_num, rfl, by omega, by omega, by omega, by omega, by simp; omega, R4, BW4⟩
            case measure => simp [intOf]; omega
          · go_wp2_with fail
            refine (rec_no R.hb 1 n (by omega) (by omega) (by omega) (by omega) e3 (by omega) (by omega) (by omega)).mono ?_
            rintro e w3 ⟨rfl, f3⟩
            have BW3 := R.below f3 (by simp) z1 BW
            have R4 : Rep (w3.alloc (.cells #[.int .i64 0, .int .i64 0] 30)) b b (l) used sv 0 0 T := R.frame (S := []) (f3.alloc _) (by simp)
            have BW4 := BW3.alloc (o := .cells #[.int .i64 0, .int .i64 0] 30) (by have := BW3.size; omega)
            clear R f3 BW BW3
            go_wp2_with (first | (go_at_call 12; refine (used_any _ R4.hb).mono ?_; rintro e w' ⟨rfl, rfl⟩))
            go_roundw
            case rel => exact ⟨k + 1, L, used, sv, T, by omega, by go_num, rfl, e1, e2, e3, e4, by omega, R4, BW4⟩
            case measure => simp [intOf]; omega
    · go_wp2
      go_ret
      exact ⟨rfl, BW⟩

set_option maxHeartbeats 1000000 in
theorem limits_neg (l : Int) (hl : l < 0) (hl2 : l ≤ 2000) (a0 : Option Addr) (len cap : Nat) (zs : List Int) (w : World) (hlen : (len : Int) ≤ 50)
    (ha : ∀ i, i < len → ∃ sb so, a0 = some ⟨sb, so, none⟩ ∧ sb < w.heap.size ∧ w.cell? ⟨sb, so + i, none⟩ = some (.int .i64 (zs.getD i 0))) :
    Calls Try.prog 6 #[.int .i64 l, .slice a0 len cap] w fun e w' => e = .returned (.bool true) ∧ Below w.heap.size w w' := by
  have hcap : Hid (cap0 l = 0) := by unfold Hid cap0; (try rw [if_pos hl]); (try rw [if_neg (by omega), if_neg (by omega)])
  go_enter Try.func6, Try.ntmps6
  go_wp2_with fail
  refine (awake_any _).mono ?_
  rintro e w1 ⟨rfl, f1⟩
  have B1 : Below w.heap.size w w1 := f1.below (Nat.le_refl _) (by simp)
  have z1 := f1.size
  go_wp2_with fail
  refine (new_any l _).mono ?_
  rintro e w2 ⟨rfl, rfl⟩
  have R0 := Rep.new w1 l
  have B2 : Below w.heap.size w (w1.alloc (.cells #[.bool true, .int .i64 (cap0 l), .int .i64 0, .slice none 0 0, .int .i64 0, .int .i64 0] 61)) := B1.alloc z1 _
  rw [hcap.out] at R0 B2 ⊢
  generalize w1.alloc (.cells #[.bool true, .int .i64 (0), .int .i64 0, .slice none 0 0, .int .i64 0, .int .i64 0] 61) = w2 at *
  generalize w1.heap.size = b at *
  clear f1 B1
  go_wp2
  go_loopw [6, 28] (fun lf i wr => ∃ (k : Nat) (L used : Int) (sv : Value) (T : List Thing), k ≤ len ∧ i = .int .i64 k ∧ lf = .int .i64 L ∧ L + used ≤ 0 ∧ 0 ≤ L + used ∧ 0 ≤ used ∧ 0 ≤ L ∧ T.length ≤ k ∧ Rep wr b b (0) used sv 0 0 T ∧ Below w.heap.size w wr) (fun _ i _ => len - (intOf i).toNat)
  case atStart => exact ⟨0, 0, 0, _, _, Nat.zero_le _, rfl, rfl, by omega, by omega, by omega, by omega, Nat.zero_le _, R0, B2⟩
  case round =>
    obtain ⟨k, L, used, sv, T, hk, rfl, rfl, e1, e2, e3, e4, hT, R, BW⟩ := hrel
    clear R0 B2
    by_cases hlt : k < len
    · obtain ⟨sb, so, rfl, hsb, hcell⟩ := ha k hlt
      have hc := (BW.cell (p := ⟨sb, so + k, none⟩) hsb).trans hcell
      clear hcell
      generalize zs.getD k 0 = n at hc
      by_cases hneg : n < 0
      · go_wp2
        go_roundw
        case rel => exact ⟨k + 1, L, used, sv, T, by omega, by go_num, rfl, e1, e2, e3, e4, by omega, R, BW⟩
        case measure => simp [intOf]; omega
      · by_cases hbig : 1000 < n
        · go_wp2
          go_roundw
          case rel => exact ⟨k + 1, L, used, sv, T, by omega, by go_num, rfl, e1, e2, e3, e4, by omega, R, BW⟩
          case measure => simp [intOf]; omega
        · by_cases hroom : n < L
          · exfalso; omega
          · go_wp2_with fail
            refine (rec_no R.hb 1 n (by omega) (by omega) (by omega) (by omega) e3 (by omega) (by omega) (by omega)).mono ?_
            rintro e w3 ⟨rfl, f3⟩
            have BW3 := R.below f3 (by simp) z1 BW
            have R4 : Rep (w3.alloc (.cells #[.int .i64 0, .int .i64 0] 30)) b b (0) used sv 0 0 T := R.frame (S := []) (f3.alloc _) (by simp)
            have BW4 := BW3.alloc (o := .cells #[.int .i64 0, .int .i64 0] 30) (by have := BW3.size; omega)
            clear R f3 BW BW3
            go_wp2_with (first | (go_at_call 12; refine (used_any _ R4.hb).mono ?_; rintro e w' ⟨rfl, rfl⟩))
            go_roundw
            case rel => exact ⟨k + 1, L, used, sv, T, by omega, by go_num, rfl, e1, e2, e3, e4, by omega, R4, BW4⟩
            case measure => simp [intOf]; omega
    · go_wp2
      go_ret
      exact ⟨rfl, BW⟩

set_option maxHeartbeats 400000 in
theorem limits_out (l : Int) (a0 : Option Addr) (len cap : Nat) (w : World) (h : 2000 < l ∨ 50 < (len : Int)) :
    Calls Try.prog 6 #[.int .i64 l, .slice a0 len cap] w fun e w' => e = .returned (.bool true) ∧ Below w.heap.size w w' := by
  by_cases h1 : 2000 < l
  · go_enter Try.func6, Try.ntmps6
    go_wp2_with fail
    refine (awake_any _).mono ?_
    rintro e w1 ⟨rfl, f1⟩
    go_wp2
    go_ret
    exact ⟨rfl, f1.below (Nat.le_refl _) (by simp)⟩
  · have h2 : 50 < (len : Int) := by omega
    go_enter Try.func6, Try.ntmps6
    go_wp2_with fail
    refine (awake_any _).mono ?_
    rintro e w1 ⟨rfl, f1⟩
    go_wp2
    go_ret
    exact ⟨rfl, f1.below (Nat.le_refl _) (by simp)⟩

/-- HeapLimits returns true, whatever it is handed, and leaves what was there as it was. -/
theorem limits_any (l : Int) (a0 : Option Addr) (len cap : Nat) (zs : List Int) (w : World)
    (ha : ∀ i, i < len → ∃ sb so, a0 = some ⟨sb, so, none⟩ ∧ sb < w.heap.size ∧ w.cell? ⟨sb, so + i, none⟩ = some (.int .i64 (zs.getD i 0))) :
    Calls Try.prog 6 #[.int .i64 l, .slice a0 len cap] w fun e w' => e = .returned (.bool true) ∧ Below w.heap.size w w' := by
  by_cases h : 2000 < l ∨ 50 < (len : Int)
  · exact limits_out l a0 len cap w h
  · by_cases h2 : l < 0
    · exact limits_neg l h2 (by omega) a0 len cap zs w (by omega) ha
    · exact limits_pos l (by omega) (by omega) a0 len cap zs w (by omega) ha
end Go.Proofs.Ytndjoklinccfjaa
