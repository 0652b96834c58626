/-
  What a byte is, how far letters and digits go, which texts are words; condition: the table lies as the program's text lays it.
-/
import Derived.Test.YtekjfddcbcijdaaGreatDoorLexA
import Derived.Lib.LaidTab
import Derived.Lib.ItoaMem
namespace Go.Proofs.YtekjfddcbcijdaaGreatDoor
open Go.RowKit

def pw10 : String := "internal/strconv.uint64pow10"
theorem gPow : Tryz.prog.globalNamed pw10 = some 2 := by kernel_rfl
/-- The two tables as the program's text lays them. -/
structure Tabs (w : World) : Prop where
  kinds : ∀ n, n < 128 → w.cell? ⟨0, n, none⟩ = some (.int .u8 (kindN n))
  signs : ∀ n, n < 26 → w.cell? ⟨1, n, none⟩ = some (.string ⟨(signs.getD n []).toArray⟩)
  pow : Lib.TabIs Tryz.prog w pw10 .u64 Lib.pow10Tab
  len : 6 ≤ w.heap.size

theorem Tabs.fr {S : List Nat} {w w' : World} (h : Tabs w) (f : Fr S w w') (hS : ∀ k, k ∈ S → 6 ≤ k) : Tabs w' :=
  ⟨fun n hn => f.cell1 (h.kinds n hn) (fun hm => by have := hS _ hm; simp at this), fun n hn => f.cell1 (h.signs n hn) (fun hm => by have := hS _ hm; simp at this), by
    have hp := h.pow
    have hb := f.block 2 (Nat.lt_of_lt_of_le (by decide) h.len) (fun hm => by have := hS _ hm; omega)
    unfold Lib.TabIs World.var? at *
    rw [gPow] at hp ⊢
    simp only [Option.bind_some] at hp ⊢
    rw [hb]
    exact hp, Nat.le_trans h.len f.size⟩

set_option maxRecDepth 100000 in
theorem kindOf_any (c : Nat) (w : World) (hc : c < 256) (T : Tabs w) :
    Calls Tryz.prog 44 #[.int .u8 c] w fun e w' => e = .returned (.int .u8 (kindN c)) ∧ w' = w := by
  by_cases h : c < 128
  · have hk := T.kinds c h
    go_enter Tryz.func44, Tryz.ntmps44
    go_wp2
    go_ret
    exact ⟨rfl, rfl⟩
  · have hk := kind_big (n := c) (by omega)
    rw [hk]
    go_enter Tryz.func44, Tryz.ntmps44
    go_wp2
    go_ret
    exact ⟨rfl, rfl⟩

theorem drop_cons (s : ByteArray) (k : Nat) (h : k < s.size) : s.data.toList.drop k = s[k] :: s.data.toList.drop (k + 1) := by
  rw [List.drop_eq_getElem_cons (by simpa using h)]; rfl
theorem drop_end (s : ByteArray) (k : Nat) (h : s.size ≤ k) : s.data.toList.drop k = [] := by
  rw [List.drop_eq_nil_iff]; simpa using h
theorem byte_lt (b : UInt8) : b.toNat < 256 := b.toNat_lt

theorem beq_int_false {a b : Int} (h : a ≠ b) : (a == b) = false := by simp [h]

/-- How far letters and digits go from k on. -/
def rnE (s : ByteArray) (k : Nat) : Nat := k + runL (s.data.toList.drop k)
theorem rnE_le (s : ByteArray) (k : Nat) (h : k ≤ s.size) : k ≤ rnE s k ∧ rnE s k ≤ s.size := by
  have := runL_le (s.data.toList.drop k)
  simp at this
  unfold rnE
  constructor
  · omega
  · have : s.data.size = s.size := rfl
    omega
theorem rnE_end (s : ByteArray) (k : Nat) (h : s.size ≤ k) : rnE s k = k := by simp [rnE, drop_end s k h, runL]
theorem rnE_in (s : ByteArray) (k : Nat) (h : k < s.size) (hw : isWd s[k].toNat = true) : rnE s k = rnE s (k + 1) := by
  simp [rnE, drop_cons s k h, runL, hw]; omega
theorem rnE_out (s : ByteArray) (k : Nat) (h : k < s.size) (hw : isWd s[k].toNat = false) : rnE s k = k := by
  simp [rnE, drop_cons s k h, runL, hw]

set_option maxRecDepth 100000 in
theorem runEnd_any (s : ByteArray) (k0 : Nat) (w : World) (hs : s.size ≤ maxLen) (hk0 : k0 ≤ s.size) (T : Tabs w) :
    Calls Tryz.prog 49 #[.string s, .int .i64 k0] w fun e w' => e = .returned (.int .i64 (rnE s k0)) ∧ w' = w := by
  unfold maxLen at hs
  go_enter Tryz.func49, Tryz.ntmps49
  go_wp2
  go_loop [1] (fun i => ∃ k : Nat, k ≤ s.size ∧ i = .int .i64 k ∧ Hid (rnE s k = rnE s k0)) (fun i => s.size - (intOf i).toNat)
  case atStart => exact ⟨k0, hk0, rfl, rfl⟩
  case round =>
    obtain ⟨k, hk, rfl, he⟩ := hrel
    by_cases hlt : k < s.size
    · have hb := byte_lt s[k]
      by_cases h2 : kindN s[k].toNat = 2
      · have hw : isWd s[k].toNat = true := (kind_wd _).1 (.inl h2)
        have hr := rnE_in s k hlt hw
        go_wp2_with (go_at_call 44; refine (kindOf_any s[k].toNat _ hb T).mono ?_; rintro e w' ⟨rfl, rfl⟩; rw [h2])
        go_round
        case rel => exact ⟨k + 1, hlt, by go_num, hr ▸ he⟩
        case measure => simp [intOf]; omega
      · by_cases h3 : kindN s[k].toNat = 3
        · have hw : isWd s[k].toNat = true := (kind_wd _).1 (.inr h3)
          have hr := rnE_in s k hlt hw
          go_wp2_with (go_at_call 44; refine (kindOf_any s[k].toNat _ hb T).mono ?_; rintro e w' ⟨rfl, rfl⟩; rw [h3])
          go_round
          case rel => exact ⟨k + 1, hlt, by go_num, hr ▸ he⟩
          case measure => simp [intOf]; omega
        · have hw : isWd s[k].toNat = false := by
            rw [Bool.eq_false_iff]; intro h; rcases (kind_wd _).2 h with h | h; exact h2 h; exact h3 h
          have hr := rnE_out s k hlt hw
          generalize hK : kindN s[k].toNat = K at *
          have h2' : ((K : Int) == 2) = false := beq_int_false (by omega)
          have h3' : ((K : Int) == 3) = false := beq_int_false (by omega)
          clear h2 h3
          go_wp2_with (go_at_call 44; refine (kindOf_any s[k].toNat _ hb T).mono ?_; rintro e w' ⟨rfl, rfl⟩; rw [hK])
          go_ret
          refine ⟨?_, rfl⟩; rw [← he.out, hr]; rfl
    · have hr := rnE_end s k (by omega)
      go_wp2
      go_ret
      refine ⟨?_, rfl⟩; rw [← he.out, hr]; rfl

/-- Which texts are words. -/
def wrd (s : ByteArray) : Bool := wordL s.data.toList
theorem wrd_toList (s : ByteArray) : wordL s.toList = wrd s := by rw [Lib.toList_data]; rfl
set_option maxRecDepth 100000 in
theorem isWord_any (s : ByteArray) (w : World) :
    Calls Tryz.prog 68 #[.string s] w fun e w' => e = .returned (.bool (wrd s)) ∧ w' = w := by
  go_enter Tryz.func68, Tryz.ntmps68
  go_wp2
  all_goals go_ret
  all_goals refine ⟨congrArg (fun b => Ending.returned (Value.bool b)) ?_, rfl⟩
  all_goals (rw [← wrd_toList]; simp_all [wordL, words])
end Go.Proofs.YtekjfddcbcijdaaGreatDoor
