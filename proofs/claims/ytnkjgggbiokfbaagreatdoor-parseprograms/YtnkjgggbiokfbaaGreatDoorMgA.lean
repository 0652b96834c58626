/-
  Texts of the proof, in their order: LexA, LexB, LexC, LexD, LexE, LexF, LexG, LexH, LexK, LexL, LexM, LexN, LexO, LexP, LexQ, LexR, LexS, ParA, ParB, ParM; conditions: as each says.
-/
import Derived.Test.YtnkjgggbiokfbaaGreatDoorProg
import Derived.WalkKit
import Derived.WalkSpells
import Derived.WalkLawsBesides
import Derived.Deep.QuietTactic
import Derived.BigQuiet
import Derived.Lib.Bytealg
import Derived.Lib.UnsafeStr
import Derived.Lib.LaidTab
import Derived.Lib.ItoaMem
import Derived.Deep.LoopGhost
import Derived.Deep.MidRow
import Derived.WalkMore
import Derived.RegionTactic
import Derived.ChangeAlike
import Derived.Lib.BufferWrite
import Derived.RangeFuncNested
import Derived.RangeFuncBound
import Derived.RangeFuncCalls
import Derived.RangeFuncLeaves
import Derived.Shelf.Abstract
import Derived.Shelf.RegionOpen
import Derived.OwnWalkIn
import Derived.TacticsInMore
import Derived.LoopNIn
import Derived.LoopIn
import Derived.Maps.OwnIn
import Derived.Maps.AppendAt
import Derived.RangeFuncRecord
import Derived.Maps.OwnSet
import Derived.Lib.ItoaNum
namespace Go.Proofs.YtnkjgggbiokfbaaGreatDoor
open Go.RowKit

/-- What lay in w lies in w', but for the blocks of S. -/
structure Fr (S : List Nat) (w w' : World) : Prop where
  os : w'.os = w.os
  tape : w'.tape = w.tape
  output : w'.output = w.output
  size : w.heap.size ≤ w'.heap.size
  block : ∀ k, k < w.heap.size → k ∉ S → w'.heap[k]? = w.heap[k]?

theorem Fr.refl (S : List Nat) (w : World) : Fr S w w := ⟨rfl, rfl, rfl, Nat.le_refl _, fun _ _ _ => rfl⟩

theorem Fr.trans {S : List Nat} {a b c : World} (h : Fr S a b) (k : Fr S b c) : Fr S a c :=
  ⟨k.os.trans h.os, k.tape.trans h.tape, k.output.trans h.output, Nat.le_trans h.size k.size, fun i hi hS => (k.block i (Nat.lt_of_lt_of_le hi h.size) hS).trans (h.block i hi hS)⟩

theorem Fr.drew {S : List Nat} {a b : World} (h : Fr S a b) : Fr S a b.drew := ⟨h.os, h.tape, h.output, h.size, h.block⟩
theorem Fr.drewN {S : List Nat} {a b : World} (h : Fr S a b) (n : Nat) : Fr S a (b.drewN n) := ⟨h.os, h.tape, h.output, h.size, h.block⟩

theorem Fr.alloc {S : List Nat} {a b : World} (h : Fr S a b) (o : Obj) : Fr S a (b.alloc o) :=
  h.trans ⟨rfl, rfl, rfl, by simp, fun k hk _ => Below.heap_alloc _ _ _ hk⟩

theorem Fr.setCell {S : List Nat} {a b : World} (h : Fr S a b) {p : Addr} (hp : p.block ∈ S ∨ a.heap.size ≤ p.block) (u : Value) : Fr S a (b.setCell p u) :=
  ⟨h.os, h.tape, h.output, by simpa [World.setCell] using h.size, fun k hk hS => by
    rw [Below.heap_setCell]
    · exact h.block k hk hS
    · rintro rfl
      rcases hp with hp | hp
      · exact hS hp
      · omega⟩

theorem Fr.sub {S T : List Nat} {a b : World} (h : Fr S a b) (hT : ∀ k, k ∈ S → k ∈ T ∨ a.heap.size ≤ k) : Fr T a b :=
  ⟨h.os, h.tape, h.output, h.size, fun k hk hS => h.block k hk (fun hm => by rcases hT k hm with h1 | h1; exact hS h1; omega)⟩

theorem Fr.below {S : List Nat} {a b : World} {B : Nat} (h : Fr S a b) (hB : B ≤ a.heap.size) (hS : ∀ k, k ∈ S → B ≤ k) : Below B a b :=
  ⟨h.os, h.tape, h.output, h.size, fun k hk => h.block k (by omega) (fun hm => by have := hS k hm; omega)⟩

theorem Fr.ofBelow {a b : World} (h : Below a.heap.size a b) : Fr [] a b :=
  ⟨h.os, h.tape, h.output, h.size, fun k hk _ => h.block k hk⟩

theorem Fr.grown {S : List Nat} {a b c : World} {row : Option Nat} (h : Fr S a b) (hg : b.grownBy c row) (hr : ∀ k, row = some k → k ∈ S ∨ a.heap.size ≤ k) : Fr S a c :=
  ⟨hg.os.trans h.os, hg.tape.trans h.tape, hg.output.trans h.output, Nat.le_trans h.size hg.size, fun k hk hS => by
    have h1 := h.size
    rw [hg.block k (by omega) (fun e => by rcases hr k e.symm with h2 | h2; exact hS h2; omega)]
    exact h.block k hk hS⟩

theorem Fr.cell1 {S : List Nat} {w w' : World} {p : Addr} {u : Value} (h : Fr S w w') (hc : w.cell? p = some u) (hS : p.block ∉ S) : w'.cell? p = some u := by
  unfold World.cell? at hc ⊢
  cases hb : w.heap[p.block]? with
  | none => rw [hb] at hc; simp at hc
  | some o =>
    rw [h.block p.block (Array.getElem?_eq_some_iff.1 hb).1 hS]
    exact hc

/-- Of a byte: a blank, a letter, a digit; its kind as the table has it. -/
def isBl (n : Nat) : Bool := decide (n = 32 ∨ n = 9 ∨ n = 10 ∨ n = 13)
def isLet (n : Nat) : Bool := decide (97 ≤ n ∧ n ≤ 122 ∨ 65 ≤ n ∧ n ≤ 90 ∨ n = 95)
def isDig (n : Nat) : Bool := decide (48 ≤ n ∧ n ≤ 57)
def kindN (n : Nat) : Nat := if isBl n then 1 else if isLet n then 2 else if isDig n then 3 else if n = 39 then 4 else 0
def isWd (n : Nat) : Bool := isLet n || isDig n

theorem kind_wd (n : Nat) : (kindN n = 2 ∨ kindN n = 3) ↔ isWd n = true := by
  simp only [kindN, isBl, isLet, isDig, isWd, decide_eq_true_eq, Bool.or_eq_true]
  split <;> rename_i h1
  · constructor
    · intro h; omega
    · intro h; omega
  · split <;> rename_i h2
    · simp [h2]
    · split <;> rename_i h3
      · simp [h3]
      · split <;> simp <;> omega

/-- How far letters and digits go; how far the line goes; how far blanks and notes go (true: within a note). -/
def runL : List UInt8 → Nat
  | [] => 0
  | c :: l => if isWd c.toNat then runL l + 1 else 0
def toNl : List UInt8 → Nat
  | [] => 0
  | c :: l => if c.toNat = 10 then 0 else toNl l + 1
def skipL : Bool → List UInt8 → Nat
  | _, [] => 0
  | true, c :: l => if c.toNat = 10 then skipL false l + 1 else skipL true l + 1
  | false, c :: l => if isBl c.toNat then skipL false l + 1 else if c.toNat = 47 ∧ l.head? = some 47 then skipL true l + 1 else 0

theorem runL_le (l : List UInt8) : runL l ≤ l.length := by
  induction l with
  | nil => simp [runL]
  | cons c l ih => simp only [runL, List.length_cons]; split <;> omega
theorem toNl_le (l : List UInt8) : toNl l ≤ l.length := by
  induction l with
  | nil => simp [toNl]
  | cons c l ih => simp only [toNl, List.length_cons]; split <;> omega
theorem skipL_le (b : Bool) (l : List UInt8) : skipL b l ≤ l.length := by
  induction l generalizing b with
  | nil => simp [skipL]
  | cons c l ih =>
    have h1 := ih true
    have h2 := ih false
    cases b
    · simp only [skipL, List.length_cons]
      split
      · omega
      · split <;> omega
    · simp only [skipL, List.length_cons]
      split <;> omega

/-- A note, up to its end. -/
theorem skip_note (l : List UInt8) : skipL true l = toNl l + skipL false (l.drop (toNl l)) := by
  induction l with
  | nil => simp [skipL, toNl]
  | cons c l ih =>
    simp only [skipL, toNl]
    split
    · rename_i h
      simp [skipL, isBl, h]
    · rw [ih]
      simp
      omega

/-- A digit's number; 16: none. The number that digits are by a base, behind n. -/
def fig (n : Nat) : Nat := if isDig n then n - 48 else if 97 ≤ n ∧ n ≤ 102 then n - 87 else if 65 ≤ n ∧ n ≤ 70 then n - 55 else 16
def valL (base : Nat) : List UInt8 → Nat → Option Nat
  | [], n => some n
  | c :: l, n => if base ≤ fig c.toNat ∨ (9223372036854775807 - fig c.toNat) / base < n then none else valL base l (n * base + fig c.toNat)
def valueL (base : Nat) (l : List UInt8) : Option Nat := if l = [] then none else valL base l 0
def quotedL (l : List UInt8) : Bool := decide (l.length = 3 ∧ l.head? = some 39 ∧ l[2]? = some 39)
def numL (l : List UInt8) : Option Nat :=
  if quotedL l then (if 32 ≤ (l.getD 1 0).toNat ∧ (l.getD 1 0).toNat ≤ 126 then some (l.getD 1 0).toNat else none)
  else if l.take 2 = [48, 120] then valueL 16 (l.drop 2) else valueL 10 l

def words : List (List UInt8) := [[114, 101, 99], [102, 110], [108, 101, 116], [105, 102], [101, 108, 115, 101], [119, 104, 105, 108, 101], [114, 101, 116, 117, 114, 110], [111, 117, 116], [115, 116, 111, 112], [109, 101, 114, 103, 101], [112, 114, 111, 109, 111, 116, 101], [110, 101, 119], [97, 114, 114], [108, 101, 110], [105, 110], [105, 109, 103], [115, 105, 122, 101], [110, 117, 108, 108], [114, 111, 111, 116]]
def wordL (l : List UInt8) : Bool := words.contains l
def nameL (l : List UInt8) : Bool := (match l with | [] => false | c :: _ => isLet c.toNat) && decide (runL l = l.length) && !wordL l

def signs : List (List UInt8) := [[60, 60], [62, 62], [61, 61], [33, 61], [60, 61], [40], [41], [123], [125], [91], [93], [44], [59], [46], [61], [43], [45], [42], [47], [37], [38], [124], [94], [60], [33], [126]]
def signL (l : List UInt8) : Nat := match signs.find? (fun g => g.isPrefixOf l) with | some g => g.length | none => 0

structure Tok where
  kind : Nat
  text : List UInt8
  frm : Nat
  to : Nat
  n : Nat

def readL (p : Nat) (l : List UInt8) : Except Nat Tok :=
  if kindN (l.getD 0 0).toNat = 2 then .ok ⟨if wordL (l.take (runL l)) then 2 else 1, l.take (runL l), p, p + runL l, 0⟩
  else if kindN (l.getD 0 0).toNat = 3 then (match numL (l.take (runL l)) with | none => .error 41 | some n => .ok ⟨4, l.take (runL l), p, p + runL l, n⟩)
  else if kindN (l.getD 0 0).toNat = 4 then (match numL (l.take 3) with | none => .error 41 | some n => .ok ⟨4, l.take 3, p, p + min 3 l.length, n⟩)
  else if signL l = 0 then .error 40 else .ok ⟨3, l.take (signL l), p, p + signL l, 0⟩

/-- The tokens of l, which stands at p, up to a fault; the fault's place and number. f: at least l's length. -/
def scanL : Nat → Nat → List UInt8 → List Tok × Option (Nat × Nat)
  | 0, _, _ => ([], none)
  | f + 1, p, l =>
    if skipL false l = l.length then ([], none)
    else match readL (p + skipL false l) (l.drop (skipL false l)) with
      | .error e => ([], some (p + skipL false l, e))
      | .ok t => (t :: (scanL f t.to (l.drop (t.to - p))).1, (scanL f t.to (l.drop (t.to - p))).2)

theorem kind_le (n : Nat) : kindN n ≤ 4 := by unfold kindN; repeat (first | omega | split)
theorem kind_big {n : Nat} (h : 128 ≤ n) : kindN n = 0 := by
  simp only [kindN, isBl, isLet, isDig, decide_eq_true_eq]
  rw [if_neg (by omega), if_neg (by omega), if_neg (by omega), if_neg (by omega)]
end Go.Proofs.YtnkjgggbiokfbaaGreatDoor
namespace Go.Proofs.YtnkjgggbiokfbaaGreatDoor
open Go.RowKit

def pw10 : String := "internal/strconv.uint64pow10"
theorem gPow : Tryz.prog.globalNamed pw10 = some 3 := by kernel_rfl
/-- The two tables as the program's text lays them. -/
structure Tabs (w : World) : Prop where
  kinds : ∀ n, n < 128 → w.cell? ⟨0, n, none⟩ = some (.int .u8 (kindN n))
  signs : ∀ n, n < 26 → w.cell? ⟨1, n, none⟩ = some (.string ⟨(signs.getD n []).toArray⟩)
  pow : Lib.TabIs Tryz.prog w pw10 .u64 Lib.pow10Tab
  len : 7 ≤ w.heap.size

theorem Tabs.fr {S : List Nat} {w w' : World} (h : Tabs w) (f : Fr S w w') (hS : ∀ k, k ∈ S → 7 ≤ k) : Tabs w' :=
  ⟨fun n hn => f.cell1 (h.kinds n hn) (fun hm => by have := hS _ hm; simp at this), fun n hn => f.cell1 (h.signs n hn) (fun hm => by have := hS _ hm; simp at this), by
    have hp := h.pow
    have hb := f.block 3 (Nat.lt_of_lt_of_le (by decide) h.len) (fun hm => by have := hS _ hm; omega)
    unfold Lib.TabIs World.var? at *
    rw [gPow] at hp ⊢
    simp only [Option.bind_some] at hp ⊢
    rw [hb]
    exact hp, Nat.le_trans h.len f.size⟩

set_option maxRecDepth 100000 in
theorem kindOf_any (c : Nat) (w : World) (hc : c < 256) (T : Tabs w) :
    Calls Tryz.prog 122 #[.int .u8 c] w fun e w' => e = .returned (.int .u8 (kindN c)) ∧ w' = w := by
  by_cases h : c < 128
  · have hk := T.kinds c h
    go_enter Tryz.func122, Tryz.ntmps122
    go_wp2
    go_ret
    exact ⟨rfl, rfl⟩
  · have hk := kind_big (n := c) (by omega)
    rw [hk]
    go_enter Tryz.func122, Tryz.ntmps122
    go_wp2
    go_ret
    exact ⟨rfl, rfl⟩

theorem drop_cons (s : ByteArray) (k : Nat) (h : k < s.size) : s.data.toList.drop k = s[k] :: s.data.toList.drop (k + 1) := by
  rw [List.drop_eq_getElem_cons (by simpa using h)]; rfl
theorem drop_end (s : ByteArray) (k : Nat) (h : s.size ≤ k) : s.data.toList.drop k = [] := by
  rw [List.drop_eq_nil_iff]; simpa using h
theorem byte_lt (b : UInt8) : b.toNat < 256 := b.toNat_lt

theorem beq_int_false {a b : Int} (h : a ≠ b) : (a == b) = false := by simp [h]

/-- How far letters and digits go from k on. -/
def rnE (s : ByteArray) (k : Nat) : Nat := k + runL (s.data.toList.drop k)
theorem rnE_le (s : ByteArray) (k : Nat) (h : k ≤ s.size) : k ≤ rnE s k ∧ rnE s k ≤ s.size := by
  have := runL_le (s.data.toList.drop k)
  simp at this
  unfold rnE
  constructor
  · omega
  · have : s.data.size = s.size := rfl
    omega
theorem rnE_end (s : ByteArray) (k : Nat) (h : s.size ≤ k) : rnE s k = k := by simp [rnE, drop_end s k h, runL]
theorem rnE_in (s : ByteArray) (k : Nat) (h : k < s.size) (hw : isWd s[k].toNat = true) : rnE s k = rnE s (k + 1) := by
  simp [rnE, drop_cons s k h, runL, hw]; omega
theorem rnE_out (s : ByteArray) (k : Nat) (h : k < s.size) (hw : isWd s[k].toNat = false) : rnE s k = k := by
  simp [rnE, drop_cons s k h, runL, hw]

set_option maxRecDepth 100000 in
theorem runEnd_any (s : ByteArray) (k0 : Nat) (w : World) (hs : s.size ≤ maxLen) (hk0 : k0 ≤ s.size) (T : Tabs w) :
    Calls Tryz.prog 127 #[.string s, .int .i64 k0] w fun e w' => e = .returned (.int .i64 (rnE s k0)) ∧ w' = w := by
  unfold maxLen at hs
  go_enter Tryz.func127, Tryz.ntmps127
  go_wp2
  go_loop [1] (fun i => ∃ k : Nat, k ≤ s.size ∧ i = .int .i64 k ∧ Hid (rnE s k = rnE s k0)) (fun i => s.size - (intOf i).toNat)
  case atStart => exact ⟨k0, hk0, rfl, rfl⟩
  case round =>
    obtain ⟨k, hk, rfl, he⟩ := hrel
    by_cases hlt : k < s.size
    · have hb := byte_lt s[k]
      by_cases h2 : kindN s[k].toNat = 2
      · have hw : isWd s[k].toNat = true := (kind_wd _).1 (.inl h2)
        have hr := rnE_in s k hlt hw
        go_wp2_with (go_at_call 122; refine (kindOf_any s[k].toNat _ hb T).mono ?_; rintro e w' ⟨rfl, rfl⟩; rw [h2])
        go_round
        case rel => exact ⟨k + 1, hlt, by go_num, hr ▸ he⟩
        case measure => simp [intOf]; omega
      · by_cases h3 : kindN s[k].toNat = 3
        · have hw : isWd s[k].toNat = true := (kind_wd _).1 (.inr h3)
          have hr := rnE_in s k hlt hw
          go_wp2_with (go_at_call 122; refine (kindOf_any s[k].toNat _ hb T).mono ?_; rintro e w' ⟨rfl, rfl⟩; rw [h3])
          go_round
          case rel => exact ⟨k + 1, hlt, by go_num, hr ▸ he⟩
          case measure => simp [intOf]; omega
        · have hw : isWd s[k].toNat = false := by
            rw [Bool.eq_false_iff]; intro h; rcases (kind_wd _).2 h with h | h; exact h2 h; exact h3 h
          have hr := rnE_out s k hlt hw
          generalize hK : kindN s[k].toNat = K at *
          have h2' : ((K : Int) == 2) = false := beq_int_false (by omega)
          have h3' : ((K : Int) == 3) = false := beq_int_false (by omega)
          clear h2 h3
          go_wp2_with (go_at_call 122; refine (kindOf_any s[k].toNat _ hb T).mono ?_; rintro e w' ⟨rfl, rfl⟩; rw [hK])
          go_ret
          refine ⟨?_, rfl⟩; rw [← he.out, hr]; rfl
    · have hr := rnE_end s k (by omega)
      go_wp2
      go_ret
      refine ⟨?_, rfl⟩; rw [← he.out, hr]; rfl

/-- Which texts are words. -/
def wrd (s : ByteArray) : Bool := wordL s.data.toList
theorem wrd_toList (s : ByteArray) : wordL s.toList = wrd s := by rw [Lib.toList_data]; rfl
set_option maxRecDepth 100000 in
theorem isWord_any (s : ByteArray) (w : World) :
    Calls Tryz.prog 148 #[.string s] w fun e w' => e = .returned (.bool (wrd s)) ∧ w' = w := by
  go_enter Tryz.func148, Tryz.ntmps148
  go_wp2
  all_goals go_ret
  all_goals refine ⟨congrArg (fun b => Ending.returned (Value.bool b)) ?_, rfl⟩
  all_goals (rw [← wrd_toList]; simp_all [wordL, words])
end Go.Proofs.YtnkjgggbiokfbaaGreatDoor
namespace Go.Proofs.YtnkjgggbiokfbaaGreatDoor
open Go.RowKit

theorem fig_le (n : Nat) : fig n ≤ 16 := by
  unfold fig isDig
  simp only [decide_eq_true_eq]
  repeat (first | omega | split)

theorem ret_int {k : IntKind} {a b : Int} (h : a = b) : Ending.returned (.int k a) = .returned (.int k b) := by rw [h]

set_option maxRecDepth 100000 in
theorem digitOf_any (c : Nat) (w : World) (hc : c < 256) :
    Calls Tryz.prog 193 #[.int .u8 c] w fun e w' => e = .returned (.int .i64 (fig c)) ∧ w' = w := by
  unfold fig isDig
  simp only [decide_eq_true_eq]
  by_cases h1 : 48 ≤ c ∧ c ≤ 57
  · rw [if_pos h1]
    obtain ⟨a, b⟩ := h1
    go_enter Tryz.func193, Tryz.ntmps193
    go_wp2
    go_ret
    exact ⟨ret_int (by omega), rfl⟩
  · rw [if_neg h1]
    by_cases h2 : 97 ≤ c ∧ c ≤ 102
    · rw [if_pos h2]
      obtain ⟨a, b⟩ := h2
      clear h1
      go_enter Tryz.func193, Tryz.ntmps193
      go_wp2
      go_ret
      exact ⟨ret_int (by omega), rfl⟩
    · rw [if_neg h2]
      by_cases h3 : 65 ≤ c ∧ c ≤ 70
      · rw [if_pos h3]
        obtain ⟨a, b⟩ := h3
        clear h1 h2
        go_enter Tryz.func193, Tryz.ntmps193
        go_wp2
        go_ret
        exact ⟨ret_int (by omega), rfl⟩
      · rw [if_neg h3]
        go_enter Tryz.func193, Tryz.ntmps193
        go_wp2
        all_goals first | (exfalso; omega) | (go_ret; exact ⟨rfl, rfl⟩)

/-- A number, if there is one. -/
def nOut (o : Option Nat) : Ending := .returned (.tuple #[.int .i64 (o.getD 0 : Nat), .bool o.isSome])
theorem nOut_none {o : Option Nat} (h : o = none) : Ending.returned (.tuple #[.int .i64 0, .bool false]) = nOut o := by subst h; rfl
theorem nOut_some {o : Option Nat} {n : Nat} (h : o = some n) : Ending.returned (.tuple #[.int .i64 n, .bool true]) = nOut o := by subst h; rfl

set_option maxRecDepth 100000 in
theorem byteNumber_any (c : Nat) (w : World) (hc : c < 256) :
    Calls Tryz.prog 172 #[.int .u8 c] w fun e w' => e = nOut (if 32 ≤ c ∧ c ≤ 126 then some c else none) ∧ w' = w := by
  by_cases h : 32 ≤ c ∧ c ≤ 126
  · rw [if_pos h]
    obtain ⟨a, b⟩ := h
    go_enter Tryz.func172, Tryz.ntmps172
    go_wp2
    go_ret2
    exact ⟨rfl, rfl⟩
  · rw [if_neg h]
    go_enter Tryz.func172, Tryz.ntmps172
    go_wp2
    all_goals first | (exfalso; omega) | (go_ret2; exact ⟨rfl, rfl⟩)

theorem valL_stop {b : Nat} {c : UInt8} {l : List UInt8} {n : Nat} (h : b ≤ fig c.toNat ∨ (9223372036854775807 - fig c.toNat) / b < n) : valL b (c :: l) n = none := by
  simp only [valL]; rw [if_pos h]
theorem valL_go {b : Nat} {c : UInt8} {l : List UInt8} {n : Nat} (h1 : ¬ b ≤ fig c.toNat) (h2 : ¬ (9223372036854775807 - fig c.toNat) / b < n) : valL b (c :: l) n = valL b l (n * b + fig c.toNat) := by
  simp only [valL]; rw [if_neg (by omega)]


theorem value_end (b : Nat) (s : ByteArray) (m : Nat) (h : some m = valL b s.data.toList 0) : Ending.returned (.tuple #[.int .i64 m, .bool (!s.toList.isEmpty)]) = nOut (valueL b s.data.toList) := by
  rw [Lib.toList_data]
  by_cases he : s.data.toList = []
  · rw [he] at h ⊢
    simp [valL] at h
    subst h
    rfl
  · simp only [valueL]
    rw [if_neg he, ← h]
    cases hl : s.data.toList with
    | nil => exact absurd hl he
    | cons c l => rfl

set_option maxRecDepth 100000 in
set_option maxHeartbeats 1000000 in
theorem value10 (s : ByteArray) (w : World) (hs : s.size ≤ maxLen) :
    Calls Tryz.prog 174 #[.string s, .int .i64 10] w fun e w' => e = nOut (valueL 10 s.data.toList) ∧ w' = w := by
  unfold maxLen at hs
  go_enter Tryz.func174, Tryz.ntmps174
  go_wp2
  go_loop [6, 11] (fun n i => ∃ k m : Nat, k ≤ s.size ∧ i = .int .i64 k ∧ n = .int .i64 m ∧ m ≤ 9223372036854775807 ∧ Hid (valL 10 (s.data.toList.drop k) m = valL 10 s.data.toList 0)) (fun _ i => s.size - (intOf i).toNat)
  case atStart => exact ⟨0, 0, Nat.zero_le _, rfl, rfl, by omega, rfl⟩
  case round =>
    obtain ⟨k, m, hk, rfl, rfl, hm, he⟩ := hrel
    by_cases hlt : k < s.size
    · have hb := byte_lt s[k]
      have hd := fig_le s[k].toNat
      have he' := he.out
      rw [drop_cons s k hlt] at he'
      have hne : s.data.toList ≠ [] := by intro e; have := drop_cons s k hlt; rw [e] at this; simp at this
      have hv : valueL 10 s.data.toList = valL 10 s.data.toList 0 := by simp only [valueL]; rw [if_neg hne]
      have HV : Hid (valueL 10 s.data.toList = valL 10 s.data.toList 0) := hv
      have HE : Hid (valL 10 (s[k] :: s.data.toList.drop (k + 1)) m = valL 10 s.data.toList 0) := he'
      clear he' hv he hne
      have hstop : Hid (10 ≤ fig s[k].toNat ∨ (9223372036854775807 - fig s[k].toNat) / 10 < m → valueL 10 s.data.toList = none) := fun h => by rw [HV.out, ← HE.out, valL_stop h]
      have hgo : Hid (¬ 10 ≤ fig s[k].toNat → ¬ (9223372036854775807 - fig s[k].toNat) / 10 < m → valL 10 (s.data.toList.drop (k + 1)) (m * 10 + fig s[k].toNat) = valL 10 s.data.toList 0) := fun h1 h2 => by rw [← HE.out, valL_go h1 h2]
      clear HE HV
      generalize hD : fig s[k].toNat = D at *
      by_cases h1 : 10 ≤ D
      · have e1 := nOut_none (hstop.out (.inl h1))
        have E1 : Hid _ := e1
        clear e1
        go_wp2_with (go_at_call 193; refine (digitOf_any s[k].toNat _ hb).mono ?_; rintro e w' ⟨rfl, rfl⟩; rw [hD])
        go_ret2
        exact ⟨E1.out, rfl⟩
      · by_cases h2 : (9223372036854775807 - D) / 10 < m
        · have e1 := nOut_none (hstop.out (.inr h2))
          have E1 : Hid _ := e1
          clear e1
          go_wp2_with (go_at_call 193; refine (digitOf_any s[k].toNat _ hb).mono ?_; rintro e w' ⟨rfl, rfl⟩; rw [hD])
          all_goals first | (exfalso; omega) | skip
          go_ret2
          exact ⟨E1.out, rfl⟩
        · have hg := hgo.out h1 h2
          have HG : Hid _ := hg
          clear hg hgo hstop
          have hle : m * 10 + D ≤ 9223372036854775807 := by omega
          go_wp2_with (go_at_call 193; refine (digitOf_any s[k].toNat _ hb).mono ?_; rintro e w' ⟨rfl, rfl⟩; rw [hD])
          all_goals first | (exfalso; omega) | skip
          go_round
          case rel => exact ⟨k + 1, m * 10 + D, hlt, by go_num, by go_num, hle, HG⟩
          case measure => simp [intOf]; omega
    · have : k = s.size := by omega
      subst this
      have he' := he.out
      rw [drop_end s s.size (Nat.le_refl _)] at he'
      simp only [valL] at he'
      have HE : Hid (some m = valL 10 s.data.toList 0) := he'
      clear he he'
      go_wp2
      go_ret2
      exact ⟨value_end 10 s m HE.out, rfl⟩
set_option maxRecDepth 100000 in
set_option maxHeartbeats 1000000 in
theorem value16 (s : ByteArray) (w : World) (hs : s.size ≤ maxLen) :
    Calls Tryz.prog 174 #[.string s, .int .i64 16] w fun e w' => e = nOut (valueL 16 s.data.toList) ∧ w' = w := by
  unfold maxLen at hs
  go_enter Tryz.func174, Tryz.ntmps174
  go_wp2
  go_loop [6, 11] (fun n i => ∃ k m : Nat, k ≤ s.size ∧ i = .int .i64 k ∧ n = .int .i64 m ∧ m ≤ 9223372036854775807 ∧ Hid (valL 16 (s.data.toList.drop k) m = valL 16 s.data.toList 0)) (fun _ i => s.size - (intOf i).toNat)
  case atStart => exact ⟨0, 0, Nat.zero_le _, rfl, rfl, by omega, rfl⟩
  case round =>
    obtain ⟨k, m, hk, rfl, rfl, hm, he⟩ := hrel
    by_cases hlt : k < s.size
    · have hb := byte_lt s[k]
      have hd := fig_le s[k].toNat
      have he' := he.out
      rw [drop_cons s k hlt] at he'
      have hne : s.data.toList ≠ [] := by intro e; have := drop_cons s k hlt; rw [e] at this; simp at this
      have hv : valueL 16 s.data.toList = valL 16 s.data.toList 0 := by simp only [valueL]; rw [if_neg hne]
      have HV : Hid (valueL 16 s.data.toList = valL 16 s.data.toList 0) := hv
      have HE : Hid (valL 16 (s[k] :: s.data.toList.drop (k + 1)) m = valL 16 s.data.toList 0) := he'
      clear he' hv he hne
      have hstop : Hid (16 ≤ fig s[k].toNat ∨ (9223372036854775807 - fig s[k].toNat) / 16 < m → valueL 16 s.data.toList = none) := fun h => by rw [HV.out, ← HE.out, valL_stop h]
      have hgo : Hid (¬ 16 ≤ fig s[k].toNat → ¬ (9223372036854775807 - fig s[k].toNat) / 16 < m → valL 16 (s.data.toList.drop (k + 1)) (m * 16 + fig s[k].toNat) = valL 16 s.data.toList 0) := fun h1 h2 => by rw [← HE.out, valL_go h1 h2]
      clear HE HV
      generalize hD : fig s[k].toNat = D at *
      by_cases h1 : 16 ≤ D
      · have e1 := nOut_none (hstop.out (.inl h1))
        have E1 : Hid _ := e1
        clear e1
        go_wp2_with (go_at_call 193; refine (digitOf_any s[k].toNat _ hb).mono ?_; rintro e w' ⟨rfl, rfl⟩; rw [hD])
        go_ret2
        exact ⟨E1.out, rfl⟩
      · by_cases h2 : (9223372036854775807 - D) / 16 < m
        · have e1 := nOut_none (hstop.out (.inr h2))
          have E1 : Hid _ := e1
          clear e1
          go_wp2_with (go_at_call 193; refine (digitOf_any s[k].toNat _ hb).mono ?_; rintro e w' ⟨rfl, rfl⟩; rw [hD])
          all_goals first | (exfalso; omega) | skip
          go_ret2
          exact ⟨E1.out, rfl⟩
        · have hg := hgo.out h1 h2
          have HG : Hid _ := hg
          clear hg hgo hstop
          have hle : m * 16 + D ≤ 9223372036854775807 := by omega
          go_wp2_with (go_at_call 193; refine (digitOf_any s[k].toNat _ hb).mono ?_; rintro e w' ⟨rfl, rfl⟩; rw [hD])
          all_goals first | (exfalso; omega) | skip
          go_round
          case rel => exact ⟨k + 1, m * 16 + D, hlt, by go_num, by go_num, hle, HG⟩
          case measure => simp [intOf]; omega
    · have : k = s.size := by omega
      subst this
      have he' := he.out
      rw [drop_end s s.size (Nat.le_refl _)] at he'
      simp only [valL] at he'
      have HE : Hid (some m = valL 16 s.data.toList 0) := he'
      clear he he'
      go_wp2
      go_ret2
      exact ⟨value_end 16 s m HE.out, rfl⟩

/-- The number that a text is. -/
def num (s : ByteArray) : Option Nat := numL s.data.toList

set_option linter.unusedVariables false in
theorem hasPrefix_any (s p : ByteArray) (w : World) (hs : s.size ≤ maxLen) (hp : p.size ≤ maxLen) :
    Calls Tryz.prog 162 #[.string s, .string p] w fun e w' => e = .returned (.bool (Lib.hasPrefix s.data.toList p.data.toList)) ∧ w' = w := by
  unfold maxLen at hs hp
  rw [← Lib.hasPrefix_raw]
  by_cases h : p.size ≤ s.size
  · go_enter Tryz.func162, Tryz.ntmps162
    go_wp2
    go_ret
    exact ⟨by simp [h], rfl⟩
  · go_enter Tryz.func162, Tryz.ntmps162
    go_wp2
    go_ret
    exact ⟨by simp [h], rfl⟩

theorem cutPrefix_any (s p : ByteArray) (w : World) (hs : s.size ≤ maxLen) (hp : p.size ≤ maxLen) :
    Calls Tryz.prog 192 #[.string s, .string p] w fun e w' => e = .returned (.tuple #[.string (if Lib.hasPrefix s.data.toList p.data.toList then s.extract p.size s.size else s), .bool (Lib.hasPrefix s.data.toList p.data.toList)]) ∧ w' = w := by
  cases h : Lib.hasPrefix s.data.toList p.data.toList with
  | false =>
    unfold maxLen at hs hp
    go_enter Tryz.func192, Tryz.ntmps192
    go_wp2_with (go_at_call 162; refine (hasPrefix_any s p _ hs hp).mono ?_; rintro e w' ⟨rfl, rfl⟩; rw [h])
    go_ret2
    exact ⟨rfl, rfl⟩
  | true =>
    have hl : p.size ≤ s.size := by
      rw [← Lib.hasPrefix_raw] at h
      simp at h
      exact h.1
    unfold maxLen at hs hp
    go_enter Tryz.func192, Tryz.ntmps192
    go_wp2_with (go_at_call 162; refine (hasPrefix_any s p _ hs hp).mono ?_; rintro e w' ⟨rfl, rfl⟩; rw [h])
    go_ret2
    exact ⟨rfl, rfl⟩

theorem cutP_any (s p : ByteArray) (w : World) (hs : s.size ≤ maxLen) (hp : p.size ≤ maxLen) :
    Calls Tryz.prog 173 #[.string s, .string p] w fun e w' => e = .returned (.tuple #[.string (if Lib.hasPrefix s.data.toList p.data.toList then s.extract p.size s.size else s), .bool (Lib.hasPrefix s.data.toList p.data.toList)]) ∧ w' = w := by
  go_enter Tryz.func173, Tryz.ntmps173
  go_wp2_with (go_at_call 192; refine (cutPrefix_any s p _ hs hp).mono ?_; rintro e w' ⟨rfl, rfl⟩)
  all_goals go_ret2
  all_goals exact ⟨rfl, rfl⟩

end Go.Proofs.YtnkjgggbiokfbaaGreatDoor
namespace Go.Proofs.YtnkjgggbiokfbaaGreatDoor
open Go.RowKit

theorem quoted_facts {s : ByteArray} (hl : 2 < s.size) (h : s.size = 3) : quotedL s.data.toList = (decide ((s[0]'(Nat.lt_trans (by decide) hl)).toNat = 39) && decide ((s[2]'hl).toNat = 39)) ∧ s.data.toList.getD 1 0 = s[1]'(Nat.lt_trans (by decide) hl) := by
  obtain ⟨⟨l⟩⟩ := s
  have hl : l.length = 3 := h
  match l, hl with
  | [a, b, c], _ =>
    refine ⟨?_, rfl⟩
    show quotedL [a, b, c] = (decide (a.toNat = 39) && decide (c.toNat = 39))
    have k : ∀ x : UInt8, (x = 39) = (x.toNat = 39) := fun x => by
      rw [UInt8.toNat_inj.symm]; rfl
    simp [quotedL, k]
theorem quoted_len {s : ByteArray} (h : s.size ≠ 3) : quotedL s.data.toList = false := by
  have : s.data.toList.length ≠ 3 := by rw [← Lib.size_eq]; exact h
  unfold quotedL
  rw [decide_eq_false_iff_not]
  exact fun hh => this hh.1
theorem prefix_two (l : List UInt8) : Lib.hasPrefix l [48, 120] = decide (l.take 2 = [48, 120]) := by
  rw [← Lib.hasPrefix_of_take]
  match l with
  | [] => rfl
  | [a] => simp
  | a :: b :: r =>
    have k : ∀ x y : UInt8, (x == y) = decide (x = y) := fun _ _ => rfl
    simp [k]

set_option maxRecDepth 100000 in
set_option maxHeartbeats 1000000 in
theorem number_any (s : ByteArray) (w : World) (hs : s.size ≤ maxLen) :
    Calls Tryz.prog 149 #[.string s] w fun e w' => e = nOut (num s) ∧ w' = w := by
  have rest : quotedL s.data.toList = false → Hid (nOut (num s) = if Lib.hasPrefix s.data.toList [48, 120] then nOut (valueL 16 (s.extract 2 s.size).data.toList) else nOut (valueL 10 s.data.toList)) := fun h => by
    show _ = _
    rw [num, numL, h, prefix_two, Lib.extract_data]
    simp only [Bool.false_eq_true, if_false, decide_eq_true_eq]
    rw [List.take_of_length_le (l := s.data.toList.drop 2) (by rw [List.length_drop, ← Lib.size_eq]; omega)]
    split <;> rfl
  have hx : (s.extract 2 s.size).size ≤ maxLen := by rw [ByteArray.size_extract]; omega
  have hp2 : ((⟨#[48, 120]⟩ : ByteArray)).size ≤ maxLen := by decide
  have hv16 := fun w => value16 (s.extract 2 s.size) w hx
  have hv10 := fun w => value10 s w hs
  have hcut := fun w => cutP_any s ⟨#[48, 120]⟩ w hs hp2
  have hsz : (⟨#[48, 120]⟩ : ByteArray).size = 2 := rfl
  have hdl : (⟨#[48, 120]⟩ : ByteArray).data.toList = [48, 120] := rfl
  rw [hsz, hdl] at hcut
  unfold maxLen at hs
  have tail : quotedL s.data.toList = false → Calls Tryz.prog 149 #[.string s] w fun e w' => e = nOut (num s) ∧ w' = w := fun hq => by
    have hr := rest hq
    clear rest
    generalize num s = R at hr ⊢
    generalize valueL 10 s.data.toList = V10 at *
    generalize valueL 16 (s.extract 2 s.size).data.toList = V16 at *
    cases hpre : Lib.hasPrefix s.data.toList [48, 120] with
    | true =>
      rw [hpre] at hr hcut
      simp only [if_true] at hr hcut
      by_cases h3 : s.size = 3
      · have hl : 2 < s.size := by omega
        have l0 : 0 < s.size := Nat.lt_trans (by decide) hl
        obtain ⟨q1, q2⟩ := quoted_facts hl h3
        rw [hq] at q1
        have h3' : ((s.size : Int) == 3) = true := by simp; omega
        clear h3
        by_cases h0 : s[0].toNat = 39
        · have h2 : ¬ s[2].toNat = 39 := fun h => by rw [h0, h] at q1; simp at q1
          have h2' : ((s[2].toNat : Int) == 39) = false := beq_int_false (by omega)
          have h0' : ((s[0].toNat : Int) == 39) = true := by simp; omega
          clear h0 h2 q1 q2 hq
          go_enter Tryz.func149, Tryz.ntmps149
          go_wp2_with (first | (go_at_call 173; refine (hcut _).mono ?_; rintro e w' ⟨rfl, rfl⟩) | (go_at_call 174; refine (hv16 _).mono ?_; rintro e w' ⟨he, rfl⟩; rw [nOut] at he; subst he))
          go_ret2
          exact ⟨by rw [hr.out]; rfl, rfl⟩
        · have h0' : ((s[0].toNat : Int) == 39) = false := beq_int_false (by omega)
          clear h0 q1 q2 hq
          go_enter Tryz.func149, Tryz.ntmps149
          go_wp2_with (first | (go_at_call 173; refine (hcut _).mono ?_; rintro e w' ⟨rfl, rfl⟩) | (go_at_call 174; refine (hv16 _).mono ?_; rintro e w' ⟨he, rfl⟩; rw [nOut] at he; subst he))
          go_ret2
          exact ⟨by rw [hr.out]; rfl, rfl⟩
      · have h3' : ((s.size : Int) == 3) = false := beq_int_false (by omega)
        go_enter Tryz.func149, Tryz.ntmps149
        go_wp2_with (first | (go_at_call 173; refine (hcut _).mono ?_; rintro e w' ⟨rfl, rfl⟩) | (go_at_call 174; refine (hv16 _).mono ?_; rintro e w' ⟨he, rfl⟩; rw [nOut] at he; subst he))
        go_ret2
        exact ⟨by rw [hr.out]; rfl, rfl⟩
    | false =>
      rw [hpre] at hr hcut
      simp only [Bool.false_eq_true, if_false] at hr hcut
      by_cases h3 : s.size = 3
      · have hl : 2 < s.size := by omega
        have l0 : 0 < s.size := Nat.lt_trans (by decide) hl
        obtain ⟨q1, q2⟩ := quoted_facts hl h3
        rw [hq] at q1
        have h3' : ((s.size : Int) == 3) = true := by simp; omega
        clear h3
        by_cases h0 : s[0].toNat = 39
        · have h2 : ¬ s[2].toNat = 39 := fun h => by rw [h0, h] at q1; simp at q1
          have h2' : ((s[2].toNat : Int) == 39) = false := beq_int_false (by omega)
          have h0' : ((s[0].toNat : Int) == 39) = true := by simp; omega
          clear h0 h2 q1 q2 hq
          go_enter Tryz.func149, Tryz.ntmps149
          go_wp2_with (first | (go_at_call 173; refine (hcut _).mono ?_; rintro e w' ⟨rfl, rfl⟩) | (go_at_call 174; refine (hv10 _).mono ?_; rintro e w' ⟨he, rfl⟩; rw [nOut] at he; subst he))
          go_ret2
          exact ⟨by rw [hr.out]; rfl, rfl⟩
        · have h0' : ((s[0].toNat : Int) == 39) = false := beq_int_false (by omega)
          clear h0 q1 q2 hq
          go_enter Tryz.func149, Tryz.ntmps149
          go_wp2_with (first | (go_at_call 173; refine (hcut _).mono ?_; rintro e w' ⟨rfl, rfl⟩) | (go_at_call 174; refine (hv10 _).mono ?_; rintro e w' ⟨he, rfl⟩; rw [nOut] at he; subst he))
          go_ret2
          exact ⟨by rw [hr.out]; rfl, rfl⟩
      · have h3' : ((s.size : Int) == 3) = false := beq_int_false (by omega)
        go_enter Tryz.func149, Tryz.ntmps149
        go_wp2_with (first | (go_at_call 173; refine (hcut _).mono ?_; rintro e w' ⟨rfl, rfl⟩) | (go_at_call 174; refine (hv10 _).mono ?_; rintro e w' ⟨he, rfl⟩; rw [nOut] at he; subst he))
        go_ret2
        exact ⟨by rw [hr.out]; rfl, rfl⟩
  by_cases h3 : s.size = 3
  · have hl : 2 < s.size := by omega
    have l0 : 0 < s.size := Nat.lt_trans (by decide) hl
    have l1 : 1 < s.size := Nat.lt_trans (by decide) hl
    obtain ⟨q1, q2⟩ := quoted_facts hl h3
    have h3' : ((s.size : Int) == 3) = true := by simp; omega
    clear h3
    by_cases hb : s[0].toNat = 39 ∧ s[2].toNat = 39
    · have h0' : ((s[0].toNat : Int) == 39) = true := by simp; omega
      have h2' : ((s[2].toNat : Int) == 39) = true := by simp; omega
      rw [hb.1, hb.2] at q1
      have hn : num s = if 32 ≤ s[1].toNat ∧ s[1].toNat ≤ 126 then some s[1].toNat else none := by
        rw [num, numL, q1, q2]; rfl
      have b1 := byte_lt s[1]
      have hbn := fun w => byteNumber_any s[1].toNat w b1
      rw [← hn] at hbn
      generalize num s = R at hbn ⊢
      clear hb q1 q2 rest tail hn
      go_enter Tryz.func149, Tryz.ntmps149
      go_wp2_with (go_at_call 172; refine (hbn _).mono ?_; rintro e w' ⟨he, rfl⟩; rw [nOut] at he; subst he)
      go_ret2
      exact ⟨rfl, rfl⟩
    · refine tail ?_
      rw [q1]
      simp
      omega
  · exact tail (quoted_len h3)
end Go.Proofs.YtnkjgggbiokfbaaGreatDoor
namespace Go.Proofs.YtnkjgggbiokfbaaGreatDoor
open Go.RowKit

theorem ret_bool {a b : Bool} (h : a = b) : Ending.returned (.bool a) = .returned (.bool b) := by rw [h]

set_option maxRecDepth 100000 in
theorem letter_any (c : Nat) (w : World) (hc : c < 256) :
    Calls Tryz.prog 48 #[.int .u8 c] w fun e w' => e = .returned (.bool (isLet c)) ∧ w' = w := by
  unfold isLet
  go_enter Tryz.func48, Tryz.ntmps48
  go_wp2
  all_goals go_ret
  all_goals refine ⟨ret_bool ?_, rfl⟩
  all_goals (rw [Bool.eq_iff_iff]; simp; omega)

set_option maxRecDepth 100000 in
theorem digit_any (c : Nat) (w : World) (hc : c < 256) :
    Calls Tryz.prog 51 #[.int .u8 c] w fun e w' => e = .returned (.bool (isDig c)) ∧ w' = w := by
  unfold isDig
  go_enter Tryz.func51, Tryz.ntmps51
  go_wp2
  all_goals go_ret
  all_goals refine ⟨ret_bool ?_, rfl⟩
  all_goals (rw [Bool.eq_iff_iff]; simp; omega)

def figR (n : Nat) : Nat := if fig n = 16 then 99 else fig n

set_option maxRecDepth 100000 in
theorem figure_any (c : Nat) (w : World) (hc : c < 256) :
    Calls Tryz.prog 144 #[.int .u8 c] w fun e w' => e = .returned (.int .u64 (figR c)) ∧ w' = w := by
  have hd := fun w => digit_any c w hc
  unfold figR fig
  unfold isDig at *
  simp only [decide_eq_true_eq]
  by_cases h1 : 48 ≤ c ∧ c ≤ 57
  · rw [if_pos h1, if_neg (by omega)]
    rw [decide_eq_true h1] at hd
    obtain ⟨a, b⟩ := h1
    go_enter Tryz.func144, Tryz.ntmps144
    go_wp2_with (go_at_call 51; refine (hd _).mono ?_; rintro e w' ⟨rfl, rfl⟩)
    go_ret
    exact ⟨ret_int (by omega), rfl⟩
  · rw [decide_eq_false h1] at hd
    rw [if_neg h1]
    by_cases h2 : 97 ≤ c ∧ c ≤ 102
    · rw [if_pos h2, if_neg (by omega)]
      obtain ⟨a, b⟩ := h2
      clear h1
      go_enter Tryz.func144, Tryz.ntmps144
      go_wp2_with (go_at_call 51; refine (hd _).mono ?_; rintro e w' ⟨rfl, rfl⟩)
      go_ret
      exact ⟨ret_int (by omega), rfl⟩
    · rw [if_neg h2]
      by_cases h3 : 65 ≤ c ∧ c ≤ 70
      · rw [if_pos h3, if_neg (by omega)]
        obtain ⟨a, b⟩ := h3
        clear h1 h2
        go_enter Tryz.func144, Tryz.ntmps144
        go_wp2_with (go_at_call 51; refine (hd _).mono ?_; rintro e w' ⟨rfl, rfl⟩)
        go_ret
        exact ⟨ret_int (by omega), rfl⟩
      · rw [if_neg h3, if_pos rfl]
        go_enter Tryz.func144, Tryz.ntmps144
        go_wp2_with (go_at_call 51; refine (hd _).mono ?_; rintro e w' ⟨rfl, rfl⟩)
        all_goals first | (exfalso; omega) | (go_ret; exact ⟨rfl, rfl⟩)

set_option maxRecDepth 100000 in
theorem run_any (s : ByteArray) (k0 : Nat) (w : World) (hs : s.size ≤ maxLen) (hk0 : k0 ≤ s.size) :
    Calls Tryz.prog 49 #[.string s, .int .i64 k0] w fun e w' => e = .returned (.int .i64 (rnE s k0)) ∧ w' = w := by
  unfold maxLen at hs
  go_enter Tryz.func49, Tryz.ntmps49
  go_wp2
  go_loop [1] (fun i => ∃ k : Nat, k ≤ s.size ∧ i = .int .i64 k ∧ Hid (rnE s k = rnE s k0)) (fun i => s.size - (intOf i).toNat)
  case atStart => exact ⟨k0, hk0, rfl, rfl⟩
  case round =>
    obtain ⟨k, hk, rfl, he⟩ := hrel
    by_cases hlt : k < s.size
    · have hb := byte_lt s[k]
      have hL := fun w => letter_any s[k].toNat w hb
      have hD := fun w => digit_any s[k].toNat w hb
      have hin := rnE_in s k hlt
      have hout := rnE_out s k hlt
      unfold isWd at hin hout
      cases h1 : isLet s[k].toNat
      · rw [h1] at hL hin hout
        cases h2 : isDig s[k].toNat
        · rw [h2] at hD hin hout
          have hr := hout rfl
          clear hin hout h1 h2
          go_wp2_with (first | (go_at_call 48; refine (hL _).mono ?_; rintro e w' ⟨rfl, rfl⟩) | (go_at_call 51; refine (hD _).mono ?_; rintro e w' ⟨rfl, rfl⟩))
          go_ret
          refine ⟨?_, rfl⟩; rw [← he.out, hr]; rfl
        · rw [h2] at hD hin hout
          have hr := hin rfl
          clear hin hout h1 h2
          go_wp2_with (first | (go_at_call 48; refine (hL _).mono ?_; rintro e w' ⟨rfl, rfl⟩) | (go_at_call 51; refine (hD _).mono ?_; rintro e w' ⟨rfl, rfl⟩))
          go_round
          case rel => exact ⟨k + 1, hlt, by go_num, hr ▸ he⟩
          case measure => simp [intOf]; omega
      · rw [h1] at hL hin hout
        have hr := hin rfl
        clear hin hout h1
        go_wp2_with (first | (go_at_call 48; refine (hL _).mono ?_; rintro e w' ⟨rfl, rfl⟩) | (go_at_call 51; refine (hD _).mono ?_; rintro e w' ⟨rfl, rfl⟩))
        go_round
        case rel => exact ⟨k + 1, hlt, by go_num, hr ▸ he⟩
        case measure => simp [intOf]; omega
    · have hr := rnE_end s k (by omega)
      go_wp2
      go_ret
      refine ⟨?_, rfl⟩; rw [← he.out, hr]; rfl

theorem wordsAt (k : Nat) (h : k < 19) : (words.map fun l => Value.string ⟨l.toArray⟩)[k]? = some (.string ⟨(words.getD k []).toArray⟩) := by
  have hl : words.length = 19 := rfl
  rw [List.getElem?_map, List.getElem?_eq_getElem (by omega)]
  simp [List.getD, List.getElem?_eq_getElem (l := words) (i := k) (by omega)]

set_option maxRecDepth 100000 in
theorem Word_any (s : ByteArray) (w : World) :
    Calls Tryz.prog 50 #[.string s] w fun e w' => e = .returned (.bool (wrd s)) ∧ Fr [] w w' := by
  go_enter Tryz.func50, Tryz.ntmps50
  go_wp2
  generalize hw1 : w.alloc _ = w1
  have hF : Fr [] w w1 := by rw [← hw1]; exact (Fr.refl _ _).alloc _
  have hB : w1.heap[w.heap.size]? = some (.cells (words.map fun l => Value.string ⟨l.toArray⟩).toArray 9) := by rw [← hw1]; exact heap_alloc_new w _
  have hC : ∀ k, k < 19 → w1.cell? ⟨w.heap.size, k, none⟩ = some (.string ⟨(words.getD k []).toArray⟩) := fun k hk => by
    unfold World.cell?
    rw [hB]
    simpa using wordsAt k hk
  clear hw1 hB
  generalize w.heap.size = g at hC ⊢
  go_loop [7] (fun i => ∃ k : Nat, k ≤ 19 ∧ i = .int .i64 k ∧ ∀ j, j < k → s.toList ≠ words.getD j []) (fun i => 19 - (intOf i).toNat)
  case atStart => exact ⟨0, by omega, rfl, fun j hj => by omega⟩
  case round =>
    obtain ⟨k, hk, rfl, hno⟩ := hrel
    have hno' : Hid (∀ j, j < k → s.toList ≠ words.getD j []) := hno
    clear hno
    by_cases hlt : k < 19
    · have hlt' : (k : Int) < 19 := by omega
      have hc := hC k hlt
      clear hC
      have hq : (s.toList == (⟨(words.getD k []).toArray⟩ : ByteArray).toList) = decide (s.toList = words.getD k []) := by
        rw [Lib.toList_data (⟨(words.getD k []).toArray⟩ : ByteArray), Bool.eq_iff_iff]
        simp
      by_cases he : s.toList = words.getD k []
      · have hq' : (s.toList == (⟨(words.getD k []).toArray⟩ : ByteArray).toList) = true := by rw [hq]; exact decide_eq_true he
        have hw : wrd s = true := by
          rw [← wrd_toList, he, wordL]
          simp only [List.contains_iff_mem]
          have : k < words.length := hlt
          simp [List.getD, List.getElem?_eq_getElem this]
        have HW : Hid (wrd s = true) := hw
        clear hw hq he
        generalize (⟨(words.getD k []).toArray⟩ : ByteArray) = x at *
        go_wp2
        go_ret
        refine ⟨?_, hF⟩; rw [HW.out]; rfl
      · have hq' : (s.toList == (⟨(words.getD k []).toArray⟩ : ByteArray).toList) = false := by rw [hq]; exact decide_eq_false he
        have HE : Hid (¬ s.toList = words.getD k []) := he
        clear hq he
        generalize (⟨(words.getD k []).toArray⟩ : ByteArray) = x at *
        go_wp2
        go_round
        case rel => exact ⟨k + 1, hlt, by go_num, fun j hj => by
          by_cases hjk : j = k
          · rw [hjk]; exact HE.out
          · exact hno'.out j (by omega)⟩
        case measure => simp [intOf]; omega
    · have hlt' : ¬ (k : Int) < 19 := by omega
      have hw : wrd s = false := by
        have hk' : k = 19 := by omega
        subst hk'
        rw [← wrd_toList, wordL, Bool.eq_false_iff]
        intro h
        obtain ⟨j, hj, e⟩ := List.getElem_of_mem (List.contains_iff_mem.1 h)
        refine hno'.out j hj ?_
        rw [← e]
        simp [List.getD, List.getElem?_eq_getElem hj]
      have HW : Hid (wrd s = false) := hw
      clear hw
      go_wp2
      go_ret
      refine ⟨?_, hF⟩; rw [HW.out]; rfl
end Go.Proofs.YtnkjgggbiokfbaaGreatDoor
namespace Go.Proofs.YtnkjgggbiokfbaaGreatDoor
open Go.RowKit

set_option maxRecDepth 100000 in
set_option maxHeartbeats 1000000 in
theorem whole10 (s : ByteArray) (w : World) (hs : s.size ≤ maxLen) :
    Calls Tryz.prog 103 #[.string s, .int .u64 10] w fun e w' => e = nOut (valueL 10 s.data.toList) ∧ w' = w := by
  unfold maxLen at hs
  go_enter Tryz.func103, Tryz.ntmps103
  go_wp2
  go_loop [6, 7] (fun n i => ∃ k m : Nat, k ≤ s.size ∧ i = .int .i64 k ∧ n = .int .u64 m ∧ m ≤ 9223372036854775807 ∧ Hid (valL 10 (s.data.toList.drop k) m = valL 10 s.data.toList 0)) (fun _ i => s.size - (intOf i).toNat)
  case atStart => exact ⟨0, 0, Nat.zero_le _, rfl, rfl, by omega, rfl⟩
  case round =>
    obtain ⟨k, m, hk, rfl, rfl, hm, he⟩ := hrel
    by_cases hlt : k < s.size
    · have hb := byte_lt s[k]
      have hd := fig_le s[k].toNat
      have he' := he.out
      rw [drop_cons s k hlt] at he'
      have hne : s.data.toList ≠ [] := by intro e; have := drop_cons s k hlt; rw [e] at this; simp at this
      have hv : valueL 10 s.data.toList = valL 10 s.data.toList 0 := by simp only [valueL]; rw [if_neg hne]
      have HV : Hid (valueL 10 s.data.toList = valL 10 s.data.toList 0) := hv
      have HE : Hid (valL 10 (s[k] :: s.data.toList.drop (k + 1)) m = valL 10 s.data.toList 0) := he'
      clear he' hv he hne
      have hstop : Hid (10 ≤ fig s[k].toNat ∨ (9223372036854775807 - fig s[k].toNat) / 10 < m → valueL 10 s.data.toList = none) := fun h => by rw [HV.out, ← HE.out, valL_stop h]
      have hgo : Hid (¬ 10 ≤ fig s[k].toNat → ¬ (9223372036854775807 - fig s[k].toNat) / 10 < m → valL 10 (s.data.toList.drop (k + 1)) (m * 10 + fig s[k].toNat) = valL 10 s.data.toList 0) := fun h1 h2 => by rw [← HE.out, valL_go h1 h2]
      clear HE HV
      have hfg := fun w => figure_any s[k].toNat w hb
      unfold figR at hfg
      generalize fig s[k].toNat = D at *
      by_cases h1 : 10 ≤ D
      · have e1 := nOut_none (hstop.out (.inl h1))
        have E1 : Hid _ := e1
        clear e1
        have hdd : 10 ≤ (if D = 16 then 99 else D) ∧ (if D = 16 then 99 else D) ≤ 99 := by split <;> omega
        generalize (if D = 16 then 99 else D) = D' at *
        obtain ⟨d1, d2⟩ := hdd
        go_wp2_with (go_at_call 144; refine (hfg _).mono ?_; rintro e w' ⟨rfl, rfl⟩)
        go_ret2
        exact ⟨E1.out, rfl⟩
      · rw [if_neg (by omega)] at hfg
        by_cases h2 : (9223372036854775807 - D) / 10 < m
        · have e1 := nOut_none (hstop.out (.inr h2))
          have E1 : Hid _ := e1
          clear e1
          go_wp2_with (go_at_call 144; refine (hfg _).mono ?_; rintro e w' ⟨rfl, rfl⟩)
          all_goals first | (exfalso; omega) | skip
          go_ret2
          exact ⟨E1.out, rfl⟩
        · have hg := hgo.out h1 h2
          have HG : Hid _ := hg
          clear hg hgo hstop
          have hle : m * 10 + D ≤ 9223372036854775807 := by omega
          go_wp2_with (go_at_call 144; refine (hfg _).mono ?_; rintro e w' ⟨rfl, rfl⟩)
          all_goals first | (exfalso; omega) | skip
          go_round
          case rel => exact ⟨k + 1, m * 10 + D, hlt, by go_num, by first | go_num | (congr 1; omega), hle, HG⟩
          case measure => simp [intOf]; omega
    · have : k = s.size := by omega
      subst this
      have he' := he.out
      rw [drop_end s s.size (Nat.le_refl _)] at he'
      simp only [valL] at he'
      have HE : Hid (some m = valL 10 s.data.toList 0) := he'
      clear he he'
      go_wp2
      go_ret2
      exact ⟨value_end 10 s m HE.out, rfl⟩

set_option maxRecDepth 100000 in
set_option maxHeartbeats 1000000 in
theorem whole16 (s : ByteArray) (w : World) (hs : s.size ≤ maxLen) :
    Calls Tryz.prog 103 #[.string s, .int .u64 16] w fun e w' => e = nOut (valueL 16 s.data.toList) ∧ w' = w := by
  unfold maxLen at hs
  go_enter Tryz.func103, Tryz.ntmps103
  go_wp2
  go_loop [6, 7] (fun n i => ∃ k m : Nat, k ≤ s.size ∧ i = .int .i64 k ∧ n = .int .u64 m ∧ m ≤ 9223372036854775807 ∧ Hid (valL 16 (s.data.toList.drop k) m = valL 16 s.data.toList 0)) (fun _ i => s.size - (intOf i).toNat)
  case atStart => exact ⟨0, 0, Nat.zero_le _, rfl, rfl, by omega, rfl⟩
  case round =>
    obtain ⟨k, m, hk, rfl, rfl, hm, he⟩ := hrel
    by_cases hlt : k < s.size
    · have hb := byte_lt s[k]
      have hd := fig_le s[k].toNat
      have he' := he.out
      rw [drop_cons s k hlt] at he'
      have hne : s.data.toList ≠ [] := by intro e; have := drop_cons s k hlt; rw [e] at this; simp at this
      have hv : valueL 16 s.data.toList = valL 16 s.data.toList 0 := by simp only [valueL]; rw [if_neg hne]
      have HV : Hid (valueL 16 s.data.toList = valL 16 s.data.toList 0) := hv
      have HE : Hid (valL 16 (s[k] :: s.data.toList.drop (k + 1)) m = valL 16 s.data.toList 0) := he'
      clear he' hv he hne
      have hstop : Hid (16 ≤ fig s[k].toNat ∨ (9223372036854775807 - fig s[k].toNat) / 16 < m → valueL 16 s.data.toList = none) := fun h => by rw [HV.out, ← HE.out, valL_stop h]
      have hgo : Hid (¬ 16 ≤ fig s[k].toNat → ¬ (9223372036854775807 - fig s[k].toNat) / 16 < m → valL 16 (s.data.toList.drop (k + 1)) (m * 16 + fig s[k].toNat) = valL 16 s.data.toList 0) := fun h1 h2 => by rw [← HE.out, valL_go h1 h2]
      clear HE HV
      have hfg := fun w => figure_any s[k].toNat w hb
      unfold figR at hfg
      generalize fig s[k].toNat = D at *
      by_cases h1 : 16 ≤ D
      · have e1 := nOut_none (hstop.out (.inl h1))
        have E1 : Hid _ := e1
        clear e1
        have hdd : 16 ≤ (if D = 16 then 99 else D) ∧ (if D = 16 then 99 else D) ≤ 99 := by split <;> omega
        generalize (if D = 16 then 99 else D) = D' at *
        obtain ⟨d1, d2⟩ := hdd
        go_wp2_with (go_at_call 144; refine (hfg _).mono ?_; rintro e w' ⟨rfl, rfl⟩)
        go_ret2
        exact ⟨E1.out, rfl⟩
      · rw [if_neg (by omega)] at hfg
        by_cases h2 : (9223372036854775807 - D) / 16 < m
        · have e1 := nOut_none (hstop.out (.inr h2))
          have E1 : Hid _ := e1
          clear e1
          go_wp2_with (go_at_call 144; refine (hfg _).mono ?_; rintro e w' ⟨rfl, rfl⟩)
          all_goals first | (exfalso; omega) | skip
          go_ret2
          exact ⟨E1.out, rfl⟩
        · have hg := hgo.out h1 h2
          have HG : Hid _ := hg
          clear hg hgo hstop
          have hle : m * 16 + D ≤ 9223372036854775807 := by omega
          go_wp2_with (go_at_call 144; refine (hfg _).mono ?_; rintro e w' ⟨rfl, rfl⟩)
          all_goals first | (exfalso; omega) | skip
          go_round
          case rel => exact ⟨k + 1, m * 16 + D, hlt, by go_num, by first | go_num | (congr 1; omega), hle, HG⟩
          case measure => simp [intOf]; omega
    · have : k = s.size := by omega
      subst this
      have he' := he.out
      rw [drop_end s s.size (Nat.le_refl _)] at he'
      simp only [valL] at he'
      have HE : Hid (some m = valL 16 s.data.toList 0) := he'
      clear he he'
      go_wp2
      go_ret2
      exact ⟨value_end 16 s m HE.out, rfl⟩
end Go.Proofs.YtnkjgggbiokfbaaGreatDoor
namespace Go.Proofs.YtnkjgggbiokfbaaGreatDoor
open Go.RowKit

theorem u8eq (x : UInt8) (n : Nat) (h : n < 256) : (x = UInt8.ofNat n) = (x.toNat = n) := by
  rw [UInt8.toNat_inj.symm]
  simp
  omega
theorem head_of {s : ByteArray} (h : 0 < s.size) : ∃ l, s.data.toList = s[0] :: l := ⟨_, by have := drop_cons s 0 h; simpa using this⟩
theorem empty_of (s : ByteArray) : s.toList.isEmpty = decide (s.size = 0) := by
  rw [Lib.toList_data, Lib.size_eq]
  cases s.data.toList <;> simp
theorem num_bad {s : ByteArray} (h : 0 < s.size) (h0 : s[0].toNat = 39) (hq : quotedL s.data.toList = false) : num s = none := by
  obtain ⟨l, hl⟩ := head_of h
  rw [num, numL, hq]
  simp only [Bool.false_eq_true, if_false]
  rw [hl]
  have h48 : ¬ ((s[0] :: l).take 2 = [48, 120]) := by
    intro e
    have : s[0] = 48 := by
      cases l <;> simp at e
      exact e.1
    rw [this] at h0
    exact absurd h0 (by decide)
  rw [if_neg h48]
  simp only [valueL]
  rw [if_neg (by simp)]
  exact valL_stop (.inl (by rw [h0]; decide))
theorem num_ten {s : ByteArray} (hq : quotedL s.data.toList = false) (hx : Lib.hasPrefix s.data.toList [48, 120] = false) : num s = valueL 10 s.data.toList := by
  rw [prefix_two, decide_eq_false_iff_not] at hx
  rw [num, numL, hq, if_neg hx]; simp
theorem num_hex {s : ByteArray} (hq : quotedL s.data.toList = false) (hx : Lib.hasPrefix s.data.toList [48, 120] = true) : num s = valueL 16 (s.extract 2 s.size).data.toList := by
  rw [prefix_two, decide_eq_true_eq] at hx
  rw [num, numL, hq, if_pos hx, Lib.extract_data, List.take_of_length_le (l := s.data.toList.drop 2) (by rw [List.length_drop, ← Lib.size_eq]; omega)]; simp
theorem quoted_head {s : ByteArray} (h : 0 < s.size) (h0 : ¬ s[0].toNat = 39) : quotedL s.data.toList = false := by
  obtain ⟨l, hl⟩ := head_of h
  rw [hl]
  unfold quotedL
  rw [decide_eq_false_iff_not]
  rintro ⟨_, h1, _⟩
  simp at h1
  rw [h1] at h0
  exact h0 (by decide)
theorem prefix_at {s : ByteArray} (h : 1 < s.size) : Lib.hasPrefix s.data.toList [48, 120] = (decide ((s[0]'(Nat.lt_trans (by decide) h)).toNat = 48) && decide ((s[1]'h).toNat = 120)) := by
  rw [prefix_two]
  obtain ⟨⟨l⟩⟩ := s
  have hl : 1 < l.length := h
  match l, hl with
  | a :: b :: r, _ =>
    show decide ((a :: b :: r).take 2 = [48, 120]) = (decide (a.toNat = 48) && decide (b.toNat = 120))
    have k1 := u8eq a 48 (by decide)
    have k2 := u8eq b 120 (by decide)
    rw [Bool.eq_iff_iff]
    simp only [List.take_succ_cons, List.take_zero, List.cons.injEq, and_true, decide_eq_true_eq, Bool.and_eq_true]
    rw [← k1, ← k2]
    rfl
theorem prefix_short {s : ByteArray} (h : ¬ 1 < s.size) : Lib.hasPrefix s.data.toList [48, 120] = false := by
  rw [prefix_two, decide_eq_false_iff_not]
  intro e
  have := congrArg List.length e
  rw [List.length_take, ← Lib.size_eq] at this
  simp at this
  omega

set_option maxRecDepth 100000 in
set_option maxHeartbeats 1000000 in
theorem numberR_any (s : ByteArray) (w : World) (hs : s.size ≤ maxLen) :
    Calls Tryz.prog 52 #[.string s] w fun e w' => e = nOut (num s) ∧ w' = w := by
  have hx : (s.extract 2 s.size).size ≤ maxLen := by rw [ByteArray.size_extract]; omega
  have hv16 := fun w => whole16 (s.extract 2 s.size) w hx
  have hv10 := fun w => whole10 s w hs
  clear hx
  have hE := empty_of s
  unfold maxLen at hs
  by_cases hz : s.size = 0
  · have hn := num_ten (s := s) (quoted_len (by omega)) (prefix_short (by omega))
    rw [hn]
    have hz' : s.toList.isEmpty = true := by rw [hE]; simp [hz]
    have hz2 : ¬ 1 < (s.size : Int) := by omega
    generalize valueL 10 s.data.toList = V10 at *
    clear hn hE hz
    go_enter Tryz.func52, Tryz.ntmps52
    go_wp2_with (go_at_call 103; refine (hv10 _).mono ?_; rintro e w' ⟨he, rfl⟩; rw [nOut] at he; subst he)
    go_ret2
    exact ⟨rfl, rfl⟩
  · have l0 : 0 < s.size := by omega
    have hz' : s.toList.isEmpty = false := by rw [hE]; simp [hz]
    clear hE hz
    by_cases h0 : s[0].toNat = 39
    · have h0' : ((s[0].toNat : Int) == 39) = true := by simp; omega
      by_cases h3 : s.size = 3
      · have hl : 2 < s.size := by omega
        have l1 : 1 < s.size := by omega
        obtain ⟨q1, q2⟩ := quoted_facts hl h3
        have h3' : ((s.size : Int) != 3) = false := by simp; omega
        clear h3
        by_cases h2 : s[2].toNat = 39
        · have h2' : ((s[2].toNat : Int) != 39) = false := by simp; omega
          rw [h0, h2] at q1
          have b1 := byte_lt s[1]
          have hn : num s = if 32 ≤ s[1].toNat ∧ s[1].toNat ≤ 126 then some s[1].toNat else none := by
            rw [num, numL, q1, q2]; rfl
          clear h0 h2 q1 q2
          by_cases hr : 32 ≤ s[1].toNat ∧ s[1].toNat ≤ 126
          · rw [if_pos hr] at hn
            have e1 := nOut_some hn
            have E1 : Hid _ := e1
            obtain ⟨r1, r2⟩ := hr
            clear e1 hn
            go_enter Tryz.func52, Tryz.ntmps52
            go_wp2
            all_goals first | (exfalso; omega) | skip
            go_ret2
            exact ⟨E1.out, rfl⟩
          · rw [if_neg hr] at hn
            have e1 := nOut_none hn
            have E1 : Hid _ := e1
            clear e1 hn
            go_enter Tryz.func52, Tryz.ntmps52
            go_wp2
            all_goals first | (exfalso; omega) | (go_ret2; exact ⟨E1.out, rfl⟩)
        · have h2' : ((s[2].toNat : Int) != 39) = true := by simp; omega
          have hn := num_bad l0 h0 (by rw [q1]; simp; intro _; exact h2)
          have e1 := nOut_none hn
          have E1 : Hid _ := e1
          clear e1 hn h0 h2 q1 q2
          go_enter Tryz.func52, Tryz.ntmps52
          go_wp2
          all_goals first | (exfalso; omega) | (go_ret2; exact ⟨E1.out, rfl⟩)
      · have h3' : ((s.size : Int) != 3) = true := by simp; omega
        have hn := num_bad l0 h0 (quoted_len h3)
        have e1 := nOut_none hn
        have E1 : Hid _ := e1
        clear e1 hn h0 h3
        go_enter Tryz.func52, Tryz.ntmps52
        go_wp2
        all_goals first | (exfalso; omega) | (go_ret2; exact ⟨E1.out, rfl⟩)
    · have h0' : ((s[0].toNat : Int) == 39) = false := beq_int_false (by omega)
      have hq := quoted_head l0 h0
      clear h0
      by_cases l1 : 1 < s.size
      · have hp := prefix_at l1
        have l1' : (1 : Int) < s.size := by omega
        by_cases h48 : s[0].toNat = 48
        · have h48' : ((s[0].toNat : Int) == 48) = true := by simp; omega
          by_cases h120 : s[1].toNat = 120
          · have h120' : ((s[1].toNat : Int) == 120) = true := by simp; omega
            rw [h48, h120] at hp
            have hn := num_hex hq hp
            rw [hn]
            generalize valueL 16 (s.extract 2 s.size).data.toList = V16 at *
            clear hn hq hp h48 h120
            go_enter Tryz.func52, Tryz.ntmps52
            go_wp2_with (go_at_call 103; refine (hv16 _).mono ?_; rintro e w' ⟨he, rfl⟩; rw [nOut] at he; subst he)
            go_ret2
            exact ⟨rfl, rfl⟩
          · have h120' : ((s[1].toNat : Int) == 120) = false := beq_int_false (by omega)
            have hn := num_ten hq (by rw [hp]; simp; intro _; exact h120)
            rw [hn]
            generalize valueL 10 s.data.toList = V10 at *
            clear hn hq hp h48 h120
            go_enter Tryz.func52, Tryz.ntmps52
            go_wp2_with (go_at_call 103; refine (hv10 _).mono ?_; rintro e w' ⟨he, rfl⟩; rw [nOut] at he; subst he)
            go_ret2
            exact ⟨rfl, rfl⟩
        · have h48' : ((s[0].toNat : Int) == 48) = false := beq_int_false (by omega)
          have hn := num_ten hq (by rw [hp]; simp; intro h; exact absurd h h48)
          rw [hn]
          generalize valueL 10 s.data.toList = V10 at *
          clear hn hq hp h48
          go_enter Tryz.func52, Tryz.ntmps52
          go_wp2_with (go_at_call 103; refine (hv10 _).mono ?_; rintro e w' ⟨he, rfl⟩; rw [nOut] at he; subst he)
          go_ret2
          exact ⟨rfl, rfl⟩
      · have l1' : ¬ (1 : Int) < s.size := by omega
        have hn := num_ten hq (prefix_short l1)
        rw [hn]
        generalize valueL 10 s.data.toList = V10 at *
        clear hn hq
        go_enter Tryz.func52, Tryz.ntmps52
        go_wp2_with (go_at_call 103; refine (hv10 _).mono ?_; rintro e w' ⟨he, rfl⟩; rw [nOut] at he; subst he)
        go_ret2
        exact ⟨rfl, rfl⟩
end Go.Proofs.YtnkjgggbiokfbaaGreatDoor
namespace Go.Proofs.YtnkjgggbiokfbaaGreatDoor
open Go.RowKit

def name (s : ByteArray) : Bool := nameL s.data.toList
theorem kind_let (n : Nat) : kindN n = 2 ↔ isLet n = true := by
  simp only [kindN, isBl, isLet, isDig, decide_eq_true_eq]
  repeat (first | omega | split)
theorem name_nil {s : ByteArray} (h : s.size = 0) : name s = false := by
  have : s.data.toList = [] := by rw [← List.length_eq_zero_iff, ← Lib.size_eq]; exact h
  rw [name, this]; rfl
theorem name_eq {s : ByteArray} (h : 0 < s.size) : name s = (isLet s[0].toNat && decide (rnE s 0 = s.size) && !wrd s) := by
  obtain ⟨l, hl⟩ := head_of h
  rw [name, wrd, rnE, Lib.size_eq s, List.drop_zero]
  rw [hl]
  simp [nameL]

set_option maxRecDepth 100000 in
set_option maxHeartbeats 1000000 in
theorem name_any (s : ByteArray) (w : World) (hs : s.size ≤ maxLen) (T : Tabs w) :
    Calls Tryz.prog 106 #[.string s] w fun e w' => e = .returned (.bool (name s)) ∧ w' = w := by
  have hr := fun w T => runEnd_any s 0 w hs (Nat.zero_le _) T
  have hw := fun w => isWord_any s w
  have hE := empty_of s
  have hle := rnE_le s 0 (Nat.zero_le _)
  unfold maxLen at hs
  by_cases hz : s.size = 0
  · rw [name_nil hz]
    have hz' : s.toList.isEmpty = true := by rw [hE]; simp [hz]
    clear hE hle
    go_enter Tryz.func106, Tryz.ntmps106
    go_wp2
    go_ret
    exact ⟨rfl, rfl⟩
  · have l0 : 0 < s.size := by omega
    have hz' : s.toList.isEmpty = false := by rw [hE]; simp [hz]
    rw [name_eq l0]
    clear hE hz
    have hb := byte_lt s[0]
    have hk := fun w T => kindOf_any s[0].toNat w hb T
    by_cases h2 : kindN s[0].toNat = 2
    · rw [(kind_let _).1 h2]
      rw [h2] at hk
      clear h2
      by_cases hR : rnE s 0 = s.size
      · rw [decide_eq_true hR]
        rw [hR] at hr
        generalize wrd s = B at *
        clear hR hle
        go_enter Tryz.func106, Tryz.ntmps106
        go_wp2_with (first | (go_at_call 122; refine (hk _ T).mono ?_; rintro e w' ⟨rfl, rfl⟩) | (go_at_call 127; refine (hr _ T).mono ?_; rintro e w' ⟨rfl, rfl⟩) | (go_at_call 148; refine (hw _).mono ?_; rintro e w' ⟨rfl, rfl⟩))
        all_goals go_ret
        all_goals exact ⟨by simp, rfl⟩
      · rw [decide_eq_false hR]
        generalize wrd s = B at *
        generalize rnE s 0 = X at *
        have hR' : ((X : Int) == s.size) = false := beq_int_false (by omega)
        clear hR
        go_enter Tryz.func106, Tryz.ntmps106
        go_wp2_with (first | (go_at_call 122; refine (hk _ T).mono ?_; rintro e w' ⟨rfl, rfl⟩) | (go_at_call 127; refine (hr _ T).mono ?_; rintro e w' ⟨rfl, rfl⟩) | (go_at_call 148; refine (hw _).mono ?_; rintro e w' ⟨rfl, rfl⟩))
        all_goals go_ret
        all_goals exact ⟨by simp, rfl⟩
    · have hl : isLet s[0].toNat = false := by rw [Bool.eq_false_iff]; exact fun h => h2 ((kind_let _).2 h)
      rw [hl]
      have h2' : ((kindN s[0].toNat : Int) == 2) = false := beq_int_false (by omega)
      generalize kindN s[0].toNat = K at *
      clear h2 hl hr hle hw
      go_enter Tryz.func106, Tryz.ntmps106
      go_wp2_with (first | (go_at_call 122; refine (hk _ T).mono ?_; rintro e w' ⟨rfl, rfl⟩))
      all_goals go_ret
      all_goals exact ⟨by simp, rfl⟩

set_option maxRecDepth 100000 in
set_option maxHeartbeats 1000000 in
theorem nameR_any (s : ByteArray) (w : World) (hs : s.size ≤ maxLen) :
    Calls Tryz.prog 64 #[.string s] w fun e w' => e = .returned (.bool (name s)) ∧ Fr [] w w' := by
  have hw := fun w => Word_any s w
  have hE := empty_of s
  unfold maxLen at hs
  go_enter Tryz.func64, Tryz.ntmps64
  go_wp2
  go_loop [3] (fun i => ∃ k : Nat, k ≤ s.size ∧ i = .int .i64 k ∧ Hid (∀ h : 0 < s.size, 0 < k → isLet s[0].toNat = true ∧ rnE s 0 = rnE s k)) (fun i => s.size - (intOf i).toNat)
  case atStart => exact ⟨0, Nat.zero_le _, rfl, fun _ h => absurd h (by omega)⟩
  case round =>
    obtain ⟨k, hk, rfl, he⟩ := hrel
    by_cases hlt : k < s.size
    · have l0 : 0 < s.size := by omega
      have hb := byte_lt s[k]
      have hL := fun w => letter_any s[k].toNat w hb
      have hD := fun w => digit_any s[k].toNat w hb
      have hin := rnE_in s k hlt
      have hout := rnE_out s k hlt
      have hne := name_eq l0
      have hnx : Hid (isWd s[k].toNat = true → (k = 0 → isLet s[k].toNat = true) → ∀ h : 0 < s.size, 0 < k + 1 → isLet s[0].toNat = true ∧ rnE s 0 = rnE s (k + 1)) := fun a b h _ => by
        by_cases hk0 : k = 0
        · subst hk0
          exact ⟨b rfl, hin a⟩
        · exact ⟨(he.out h (by omega)).1, (he.out h (by omega)).2.trans (hin a)⟩
      have hfalse : Hid (isWd s[k].toNat = false ∨ (k = 0 ∧ isLet s[k].toNat = false) → name s = false) := fun h => by
        by_cases hk0 : k = 0
        · subst hk0
          have : isLet s[0].toNat = false := by
            rcases h with h | h
            · unfold isWd at h; simp at h; exact h.1
            · exact h.2
          rw [hne, this]; rfl
        · rcases h with h | h
          · have h1 := (he.out l0 (by omega)).2
            rw [hout h] at h1
            rw [hne, h1, decide_eq_false (by omega)]
            simp
          · exact absurd h.1 hk0
      clear hin hout hne he
      unfold isWd at hnx hfalse
      cases h1 : isLet s[k].toNat
      · rw [h1] at hL hnx hfalse
        cases h2 : isDig s[k].toNat
        · rw [h2] at hD hnx hfalse
          have hf := hfalse.out (.inl rfl)
          have HF : Hid _ := hf
          clear hf hnx hfalse h1 h2
          go_wp2_with (first | (go_at_call 48; refine (hL _).mono ?_; rintro e w' ⟨rfl, rfl⟩) | (go_at_call 51; refine (hD _).mono ?_; rintro e w' ⟨rfl, rfl⟩))
          all_goals go_ret
          all_goals (refine ⟨?_, Fr.refl _ _⟩; rw [HF.out]; rfl)
        · rw [h2] at hD hnx hfalse
          by_cases hk0 : k = 0
          · have hf := hfalse.out (.inr ⟨hk0, rfl⟩)
            have HF : Hid _ := hf
            clear hf hnx hfalse h1 h2
            have hk0' : ((k : Int) == 0) = true := by simp; omega
            clear hk0
            go_wp2_with (first | (go_at_call 48; refine (hL _).mono ?_; rintro e w' ⟨rfl, rfl⟩) | (go_at_call 51; refine (hD _).mono ?_; rintro e w' ⟨rfl, rfl⟩))
            all_goals go_ret
            all_goals (refine ⟨?_, Fr.refl _ _⟩; rw [HF.out]; rfl)
          · have hn := hnx.out rfl (fun h => absurd h hk0)
            have HN : Hid _ := hn
            have hk0' : ((k : Int) == 0) = false := beq_int_false (by omega)
            clear hn hnx hfalse h1 h2 hk0
            go_wp2_with (first | (go_at_call 48; refine (hL _).mono ?_; rintro e w' ⟨rfl, rfl⟩) | (go_at_call 51; refine (hD _).mono ?_; rintro e w' ⟨rfl, rfl⟩))
            go_round
            case rel => exact ⟨k + 1, hlt, by go_num, HN⟩
            case measure => simp [intOf]; omega
      · rw [h1] at hL hnx hfalse
        have hn := hnx.out rfl (fun _ => rfl)
        have HN : Hid _ := hn
        clear hn hnx hfalse h1
        go_wp2_with (first | (go_at_call 48; refine (hL _).mono ?_; rintro e w' ⟨rfl, rfl⟩) | (go_at_call 51; refine (hD _).mono ?_; rintro e w' ⟨rfl, rfl⟩))
        go_round
        case rel => exact ⟨k + 1, hlt, by go_num, HN⟩
        case measure => simp [intOf]; omega
    · by_cases hz : s.size = 0
      · have hz' : s.toList.isEmpty = true := by rw [hE]; simp [hz]
        have hn := name_nil hz
        have HN : Hid _ := hn
        clear hn hE hz he
        go_wp2
        go_ret
        refine ⟨?_, Fr.refl _ _⟩; rw [HN.out]; rfl
      · have l0 : 0 < s.size := by omega
        have hz' : s.toList.isEmpty = false := by rw [hE]; simp [hz]
        have hq := he.out l0 (by omega)
        have hn := name_eq l0
        rw [hq.1, hq.2, rnE_end s k (by omega), decide_eq_true (by omega)] at hn
        simp only [Bool.and_self, Bool.true_and] at hn
        have HN : Hid _ := hn
        clear hn hE hz he hq
        go_wp2_with (go_at_call 50; refine (hw _).mono ?_; rintro e w' ⟨rfl, hF⟩)
        all_goals go_ret
        all_goals (refine ⟨?_, hF⟩; rw [HN.out]; rfl)
end Go.Proofs.YtnkjgggbiokfbaaGreatDoor
namespace Go.Proofs.YtnkjgggbiokfbaaGreatDoor
open Go.RowKit

theorem take_full (s : ByteArray) : s.data.toList.take s.size = s.data.toList := by
  rw [List.take_of_length_le]; rw [← Lib.size_eq]; exact Nat.le_refl _

theorem take_snoc (s : ByteArray) (k : Nat) (h : k < s.size) : s.data.toList.take (k + 1) = s.data.toList.take k ++ [s[k]] := by
  rw [List.take_succ_eq_append_getElem (by simpa using h)]; rfl


theorem index_nl (l : List UInt8) : Lib.indexByte l 10 = if toNl l = l.length then -1 else (toNl l : Int) := by
  induction l with
  | nil => rfl
  | cons c l ih =>
    have hk := u8eq c 10 (by decide)
    have hle := toNl_le l
    by_cases h : c.toNat = 10
    · have h' : c = UInt8.ofNat 10 := by rw [hk]; exact h
      have e1 : toNl (c :: l) = 0 := by simp [toNl, h]
      have hq : (c == (10 : UInt8)) = true := by rw [beq_iff_eq]; exact h'
      rw [e1, if_neg (by simp)]
      simp only [Lib.indexByte, hq]
      rfl
    · have h' : ¬ c = UInt8.ofNat 10 := by rw [hk]; exact h
      have e1 : toNl (c :: l) = toNl l + 1 := by simp [toNl, h]
      have hq : (c == (10 : UInt8)) = false := by
        rw [beq_eq_false_iff_ne]; exact h'
      have e2 : Lib.indexByte (c :: l) 10 = if Lib.indexByte l 10 == -1 then -1 else Lib.indexByte l 10 + 1 := by
        simp only [Lib.indexByte, hq]
        rfl
      rw [e1, e2, ih]
      by_cases he : toNl l = l.length
      · simp [he]
      · rw [if_neg he, if_neg (c := toNl l + 1 = (c :: l).length) (by simp; omega)]
        have : ((toNl l : Int) == -1) = false := beq_int_false (by omega)
        simp [this]

set_option maxRecDepth 100000 in
theorem indexR_any (s : ByteArray) (w : World) :
    Calls Tryz.prog 186 #[.string s, .int .u8 10] w fun e w' => e = .returned (.int .i64 (Lib.indexByte s.data.toList 10)) ∧ w' = w := by
  go_enter Tryz.func186, Tryz.ntmps186
  go_wp2
  rw [run_callFunc_extern Tryz.func204 (by kernel_rfl) (by kernel_rfl) (by kernel_rfl) (e := Extern.BytealgIndexByte.indexByte) (by kernel_rfl), Lib.run_indexByteString]
  simp only [Result.andThen]
  rw [Oper.upon_value]
  go_wp2
  go_ret
  exact ⟨rfl, rfl⟩
theorem index_any (s : ByteArray) (w : World) :
    Calls Tryz.prog 163 #[.string s, .int .u8 10] w fun e w' => e = .returned (.int .i64 (Lib.indexByte s.data.toList 10)) ∧ w' = w := by
  go_enter Tryz.func163, Tryz.ntmps163
  go_wp2_with (go_at_call 186; refine (indexR_any _ _).mono ?_; rintro e w' ⟨rfl, rfl⟩)
  go_ret
  exact ⟨rfl, rfl⟩
theorem prefS_any (s p : ByteArray) (w : World) (hs : s.size ≤ maxLen) (hp : p.size ≤ maxLen) :
    Calls Tryz.prog 123 #[.string s, .string p] w fun e w' => e = .returned (.bool (Lib.hasPrefix s.data.toList p.data.toList)) ∧ w' = w := by
  go_enter Tryz.func123, Tryz.ntmps123
  go_wp2_with (go_at_call 162; refine (hasPrefix_any _ _ _ hs hp).mono ?_; rintro e w' ⟨rfl, rfl⟩)
  go_ret
  exact ⟨rfl, rfl⟩

def nlE (s : ByteArray) (k : Nat) : Nat := k + toNl (s.data.toList.drop k)
theorem nlE_le (s : ByteArray) (k : Nat) (h : k ≤ s.size) : k ≤ nlE s k ∧ nlE s k ≤ s.size := by
  have := toNl_le (s.data.toList.drop k)
  rw [List.length_drop, ← Lib.size_eq] at this
  unfold nlE
  omega
theorem extract_rest (s : ByteArray) (k : Nat) : (s.extract k s.size).data.toList = s.data.toList.drop k := by
  rw [Lib.extract_data, List.take_of_length_le]
  rw [List.length_drop, ← Lib.size_eq]
  exact Nat.le_refl _

set_option maxRecDepth 100000 in
theorem lineEnd_any (s : ByteArray) (k : Nat) (w : World) (hs : s.size ≤ maxLen) (hk : k ≤ s.size) :
    Calls Tryz.prog 124 #[.string s, .int .i64 k] w fun e w' => e = .returned (.int .i64 (nlE s k)) ∧ w' = w := by
  have hix := fun w => index_any (s.extract k s.size) w
  rw [extract_rest, index_nl] at hix
  have hle := nlE_le s k hk
  have hl : (s.data.toList.drop k).length = s.size - k := by rw [List.length_drop, ← Lib.size_eq]
  rw [hl] at hix
  unfold maxLen at hs
  by_cases he : toNl (s.data.toList.drop k) = s.size - k
  · rw [if_pos he] at hix
    have HR : Hid (nlE s k = s.size) := by show _ = _; unfold nlE; omega
    clear hl he hle
    go_enter Tryz.func124, Tryz.ntmps124
    go_wp2_with (go_at_call 163; refine (hix _).mono ?_; rintro e w' ⟨rfl, rfl⟩)
    go_ret
    refine ⟨?_, rfl⟩; rw [HR.out]; rfl
  · rw [if_neg he] at hix
    have hT : toNl (s.data.toList.drop k) ≤ s.size - k := by rw [← hl]; exact toNl_le _
    unfold nlE
    clear hl he hle
    generalize toNl (s.data.toList.drop k) = T at *
    go_enter Tryz.func124, Tryz.ntmps124
    go_wp2_with (go_at_call 163; refine (hix _).mono ?_; rintro e w' ⟨rfl, rfl⟩)
    go_ret
    exact ⟨ret_int (by omega), rfl⟩

def skE (s : ByteArray) (k : Nat) : Nat := k + skipL false (s.data.toList.drop k)
theorem skE_le (s : ByteArray) (k : Nat) (h : k ≤ s.size) : k ≤ skE s k ∧ skE s k ≤ s.size := by
  have := skipL_le false (s.data.toList.drop k)
  rw [List.length_drop, ← Lib.size_eq] at this
  unfold skE
  omega
theorem skE_end (s : ByteArray) (k : Nat) (h : s.size ≤ k) : skE s k = k := by simp [skE, drop_end s k h, skipL]
theorem skE_bl (s : ByteArray) (k : Nat) (h : k < s.size) (hb : isBl s[k].toNat = true) : skE s k = skE s (k + 1) := by
  simp [skE, drop_cons s k h, skipL, hb]; omega
/-- A note begins at k. -/
def note (s : ByteArray) (k : Nat) : Bool := Lib.hasPrefix (s.data.toList.drop k) [47, 47]
theorem pref_note (l : List UInt8) (c : UInt8) : Lib.hasPrefix (c :: l) [47, 47] = decide (c.toNat = 47 ∧ l.head? = some 47) := by
  have k := u8eq c 47 (by decide)
  have k' : (c = 47) = (c.toNat = 47) := k
  unfold Lib.hasPrefix
  rw [Bool.eq_iff_iff]
  cases l with
  | nil => simp [List.isPrefixOf]
  | cons d l =>
    simp only [List.isPrefixOf, Bool.and_true, Bool.and_eq_true, beq_iff_eq, List.head?_cons, Option.some.injEq, decide_eq_true_eq]
    rw [← k']
    constructor <;> rintro ⟨a, b⟩ <;> exact ⟨a.symm, b.symm⟩
theorem skE_note (s : ByteArray) (k : Nat) (h : k < s.size) (hb : isBl s[k].toNat = false) (hn : note s k = true) : skE s k = skE s (nlE s k) ∧ k < nlE s k := by
  unfold note at hn
  rw [drop_cons s k h, pref_note] at hn
  have hn' := of_decide_eq_true hn
  have hd : s.data.toList.drop (k + 1 + toNl (s.data.toList.drop (k + 1))) = (s.data.toList.drop (k + 1)).drop (toNl (s.data.toList.drop (k + 1))) := by rw [List.drop_drop]
  constructor
  · simp only [skE, nlE, drop_cons s k h, skipL, hb, toNl]
    rw [if_neg (by simp), if_pos hn', if_neg (by rw [hn'.1]; decide), skip_note]
    rw [show k + (toNl (List.drop (k + 1) s.data.toList) + 1) = k + 1 + toNl (List.drop (k + 1) s.data.toList) from by omega, hd]
    omega
  · simp only [nlE, drop_cons s k h, toNl]
    rw [if_neg (by rw [hn'.1]; decide)]
    omega
theorem skE_out (s : ByteArray) (k : Nat) (h : k < s.size) (hb : isBl s[k].toNat = false) (hn : note s k = false) : skE s k = k := by
  unfold note at hn
  rw [drop_cons s k h, pref_note] at hn
  have hn' := of_decide_eq_false hn
  simp only [skE, drop_cons s k h, skipL, hb]
  rw [if_neg (by simp), if_neg hn']
  omega
theorem kind_bl (n : Nat) : kindN n = 1 ↔ isBl n = true := by
  simp only [kindN, isBl, isLet, isDig, decide_eq_true_eq]
  repeat (first | omega | split)

set_option maxRecDepth 100000 in
set_option maxHeartbeats 1000000 in
theorem skip_any (s : ByteArray) (k0 : Nat) (w : World) (hs : s.size ≤ maxLen) (hk0 : k0 ≤ s.size) (T : Tabs w) :
    Calls Tryz.prog 76 #[.string s, .int .i64 k0] w fun e w' => e = .returned (.int .i64 (skE s k0)) ∧ w' = w := by
  have hs' := hs
  have HS : Hid (s.size ≤ maxLen) := hs'
  clear hs'
  unfold maxLen at hs
  go_enter Tryz.func76, Tryz.ntmps76
  go_wp2
  go_loop [1] (fun i => ∃ k : Nat, k ≤ s.size ∧ i = .int .i64 k ∧ Hid (skE s k = skE s k0)) (fun i => s.size - (intOf i).toNat)
  case atStart => exact ⟨k0, hk0, rfl, rfl⟩
  case round =>
    obtain ⟨k, hk, rfl, he⟩ := hrel
    by_cases hlt : k < s.size
    · have hb := byte_lt s[k]
      have hK := fun w T => kindOf_any s[k].toNat w hb T
      by_cases h1 : kindN s[k].toNat = 1
      · have hr := skE_bl s k hlt ((kind_bl _).1 h1)
        rw [h1] at hK
        clear h1
        go_wp2_with (go_at_call 122; refine (hK _ T).mono ?_; rintro e w' ⟨rfl, rfl⟩)
        go_round
        case rel => exact ⟨k + 1, hlt, by go_num, hr ▸ he⟩
        case measure => simp [intOf]; omega
      · have hbl : isBl s[k].toNat = false := by rw [Bool.eq_false_iff]; exact fun h => h1 ((kind_bl _).2 h)
        have h1' : ((kindN s[k].toNat : Int) == 1) = false := beq_int_false (by omega)
        have hp := fun w => prefS_any (s.extract k s.size) ⟨#[47, 47]⟩ w (by rw [ByteArray.size_extract]; unfold maxLen; omega) (by decide)
        rw [extract_rest] at hp
        have hle := fun w => lineEnd_any s k w HS.out hk
        have hnote := skE_note s k hlt hbl
        have hout := skE_out s k hlt hbl
        have hnl := nlE_le s k hk
        have hp' : ∀ w, Calls Tryz.prog 123 #[.string (s.extract k s.size), .string ⟨#[47, 47]⟩] w fun e w' => e = .returned (.bool (note s k)) ∧ w' = w := hp
        clear hp h1 hbl
        generalize kindN s[k].toNat = K at *
        cases hn : note s k
        · rw [hn] at hp' hout
          have hr := hout rfl
          clear hnote hout hnl hn hle
          go_wp2_with (first | (go_at_call 122; refine (hK _ T).mono ?_; rintro e w' ⟨rfl, rfl⟩) | (go_at_call 123; refine (hp' _).mono ?_; rintro e w' ⟨rfl, rfl⟩))
          go_ret
          refine ⟨?_, rfl⟩; rw [← he.out, hr]; rfl
        · rw [hn] at hp' hnote
          obtain ⟨hr, hgt⟩ := hnote rfl
          generalize nlE s k = N at *
          clear hout hn
          have HR : Hid (skE s N = skE s k0) := by show _ = _; rw [← he.out, hr]
          clear hr he
          obtain ⟨n1, n2⟩ := hnl
          go_wp2_with (first | (go_at_call 122; refine (hK _ T).mono ?_; rintro e w' ⟨rfl, rfl⟩) | (go_at_call 123; refine (hp' _).mono ?_; rintro e w' ⟨rfl, rfl⟩) | (go_at_call 124; refine (hle _).mono ?_; rintro e w' ⟨rfl, rfl⟩))
          go_round
          case rel => exact ⟨N, n2, rfl, HR⟩
          case measure => simp [intOf]; omega
    · have hr := skE_end s k (by omega)
      go_wp2
      go_ret
      refine ⟨?_, rfl⟩; rw [← he.out, hr]; rfl
end Go.Proofs.YtnkjgggbiokfbaaGreatDoor
namespace Go.Proofs.YtnkjgggbiokfbaaGreatDoor
open Go.RowKit

def sgn (s : ByteArray) : Nat := signL s.data.toList
theorem under126 : Tryz.prog.underlying 159 = some (.array 26 9) := by kernel_rfl
theorem info126 : (Tryz.prog.info? 159).map (·.size) = some 26 := by kernel_rfl
/-- The signs as a value; the one at a place. -/
def sgB (k : Nat) : ByteArray := ⟨(signs.getD k []).toArray⟩
def sgV : List Value := signs.map fun l => .string ⟨l.toArray⟩
theorem sgV_at (k : Nat) (h : k < 26) : sgV[k]? = some (.string (sgB k)) := by
  have hl : signs.length = 26 := rfl
  unfold sgV sgB
  rw [List.getElem?_map, List.getElem?_eq_getElem (by omega)]
  simp [List.getD, List.getElem?_eq_getElem (l := signs) (i := k) (by omega)]
theorem sgV_range {w : World} (T : Tabs w) : w.rangeAt 1 0 sgV := by
  intro j v hv
  have hj : j < 26 := by
    have := (List.getElem?_eq_some_iff.1 hv).1
    rw [show sgV.length = 26 from rfl] at this
    exact this
  rw [sgV_at j hj] at hv
  rw [← hv]
  rw [Nat.zero_add]
  exact T.signs j hj
theorem sg_index (k : Nat) (h : k < 26) (w : World) : (Instr.index 159 (.agg sgV.toArray) (.int .i64 k)).run Tryz.prog w = .ok (.string (sgB k)) w := by
  have h0 : 0 ≤ (k : Int) ∧ (k : Int) < (26 : Nat) := by omega
  have hg := sgV_at k h
  have hg' : sgV.toArray[k]? = some (.string (sgB k)) := by simpa using hg
  generalize sgV.toArray = A at *
  simp [Instr.index, run_underlying under126, asIntOf, h0, go_sem, hg', h]

theorem find_getD {L : List (List UInt8)} {p : List UInt8 → Bool} : ∀ k, k < L.length → (∀ j, j < k → p (L.getD j []) = false) → p (L.getD k []) = true → L.find? p = some (L.getD k []) := by
  induction L with
  | nil => intro k h; simp at h
  | cons x L ih =>
    intro k h hno hp
    cases k with
    | zero => simp at hp; simp [hp]
    | succ k =>
      have h0 := hno 0 (by omega)
      simp at h0
      rw [List.find?_cons, h0]
      exact ih k (by simpa using h) (fun j hj => by have := hno (j + 1) (by omega); simpa using this) (by simpa using hp)
theorem sign_found {l : List UInt8} {k : Nat} (h : k < 26) (hno : ∀ j, j < k → (signs.getD j []).isPrefixOf l = false) (hp : (signs.getD k []).isPrefixOf l = true) : signL l = (signs.getD k []).length := by
  unfold signL
  have hl : k < signs.length := by rw [show signs.length = 26 from rfl]; exact h
  rw [find_getD (p := fun g => g.isPrefixOf l) k hl hno hp]
theorem sign_none {l : List UInt8} (hno : ∀ j, j < 26 → (signs.getD j []).isPrefixOf l = false) : signL l = 0 := by
  unfold signL
  have : signs.find? (fun g => g.isPrefixOf l) = none := by
    rw [List.find?_eq_none]
    intro x hx
    obtain ⟨j, hj, e⟩ := List.getElem_of_mem hx
    have := hno j hj
    rw [List.getD, List.getElem?_eq_getElem hj, Option.getD_some, e] at this
    rw [this]; simp
  rw [this]
theorem isPrefix_iff (g l : List UInt8) : g.isPrefixOf l = true ↔ l.take g.length = g := by
  rw [List.isPrefixOf_iff_prefix, List.prefix_iff_eq_take]
  exact eq_comm

set_option maxRecDepth 100000 in
set_option maxHeartbeats 1000000 in
theorem signLength_any (s : ByteArray) (w : World) (hs : s.size ≤ maxLen) (T : Tabs w) :
    Calls Tryz.prog 128 #[.string s] w fun e w' => e = .returned (.int .i64 (sgn s)) ∧ ∃ n, w' = w.drewN n := by
  unfold maxLen at hs
  have hR := sgV_range T
  have hu := under126
  have hi : (Tryz.prog.info? 159).map (·.size) = some sgV.length := info126
  have hX := sg_index
  generalize sgV = SG at hR hi hX
  go_enter Tryz.func128, Tryz.ntmps128
  go_wp2
  go_step3
  go_wp2
  go_step3
  go_wp2_with (refine wpList_load_mid rfl 159 (.global 1) rfl 1 0 rfl SG _ hR under126 rfl hi ?_)
  clear hR hi
  go_loopg [7] 26 (fun g i wr => ∃ k : Nat, k + g = 26 ∧ i = .int .i64 k ∧ (∃ n, wr = w.drewN n) ∧ Hid (∀ j, j < k → (signs.getD j []).isPrefixOf s.data.toList = false))
  case atStart => exact ⟨0, rfl, rfl, ⟨0, rfl⟩, fun j h => by omega⟩
  case round =>
    obtain ⟨k, hkg, rfl, ⟨n, rfl⟩, hno⟩ := hrel
    cases gk with
    | zero =>
      have hlt : ¬ ((k : Int) < 26) := by omega
      have hz : sgn s = 0 := sign_none (fun j hj => hno.out j (by omega))
      have HZ : Hid _ := hz
      clear hz hX
      go_wp2
      go_ret
      refine ⟨?_, _, rfl⟩; rw [HZ.out]; rfl
    | succ g =>
      have hlt : (k : Int) < 26 := by omega
      have hk := hX k (by omega)
      clear hX
      have hk26 : k < 26 := by omega
      have HF : Hid (s.data.toList.take (sgB k).size = (sgB k).data.toList → sgn s = (sgB k).size) := fun h => by
        have e1 : (sgB k).data.toList = signs.getD k [] := by simp [sgB]
        have e2 : (sgB k).size = (signs.getD k []).length := by rw [Lib.size_eq, e1]
        rw [e1, e2] at h
        rw [e2]
        exact sign_found hk26 hno.out ((isPrefix_iff _ _).2 h)
      have HN : Hid (¬ s.data.toList.take (sgB k).size = (sgB k).data.toList → ∀ j, j < k + 1 → (signs.getD j []).isPrefixOf s.data.toList = false) := fun h j hj => by
        have e1 : (sgB k).data.toList = signs.getD k [] := by simp [sgB]
        have e2 : (sgB k).size = (signs.getD k []).length := by rw [Lib.size_eq, e1]
        rw [e1, e2] at h
        by_cases hjk : j = k
        · rw [hjk, Bool.eq_false_iff]
          exact fun hh => h ((isPrefix_iff _ _).1 hh)
        · exact hno.out j (by omega)
      have hGs : (sgB k).size ≤ 2 := by
        have e1 : (sgB k).data.toList = signs.getD k [] := by simp [sgB]
        rw [Lib.size_eq, e1]
        have : ∀ g ∈ signs, g.length ≤ 2 := by decide
        rw [List.getD, List.getElem?_eq_getElem (l := signs) (i := k) hk26]
        exact this _ (List.getElem_mem _)
      generalize sgB k = G at *
      clear hno
      go_wp2
      go_loopg [12] G.size (fun h i wx => ∃ i' : Nat, i' + h = G.size ∧ i = .int .i64 i' ∧ (∃ n, wx = w.drewN n) ∧ i' ≤ s.size ∧ Hid (s.data.toList.take i' = G.data.toList.take i'))
      case atStart => exact ⟨0, by omega, rfl, ⟨n, rfl⟩, Nat.zero_le _, rfl⟩
      case round =>
        obtain ⟨i, hih, rfl, ⟨n2, rfl⟩, his, hpre⟩ := hrel
        cases gk with
        | zero =>
          have hi : i = G.size := by omega
          subst hi
          have hf := HF.out (by rw [hpre.out, take_full])
          have HZ : Hid _ := hf
          clear hf
          go_wp2
          try rw [Exit.noGoto_ret]
          go_ret
          refine ⟨?_, _, rfl⟩; rw [HZ.out]; rfl
        | succ h =>
          have hiG : i < G.size := by omega
          have hlen : s.data.toList.length = s.size := (Lib.size_eq s).symm
          have hlenG : G.data.toList.length = G.size := (Lib.size_eq G).symm
          by_cases hil : i = s.size
          · have hn := HN.out (fun e => by
              have := congrArg List.length e
              rw [List.length_take, hlen, hlenG] at this
              omega)
            have HZ : Hid _ := hn
            have hil' : ((i : Int) == s.size) = true := by simp; omega
            clear hn hil hlen hlenG
            go_wp2
            go_region
            go_wp2
            go_roundg g
            case measure => omega
            case rel => exact ⟨k + 1, by omega, by go_num, ⟨n2 + 1, rfl⟩, HZ⟩
          · have hi2 : i < s.size := by omega
            have hil' : ((i : Int) == s.size) = false := beq_int_false (by omega)
            have t1 := take_snoc s i hi2
            have t2 := take_snoc G i hiG
            by_cases hq : s[i].toNat = G[i].toNat
            · have hq' : ((s[i].toNat : Int) != G[i].toNat) = false := by simp; omega
              have hp2 : s.data.toList.take (i + 1) = G.data.toList.take (i + 1) := by
                rw [t1, t2, hpre.out, UInt8.toNat_inj.1 hq]
              have HP : Hid _ := hp2
              clear hp2 t1 t2 hq hil hlen hlenG
              go_wp2
              go_region
              go_wp2
              go_roundg h
              case measure => omega
              case rel => exact ⟨i + 1, by omega, by go_num, ⟨_, rfl⟩, by omega, HP⟩
            · have hq' : ((s[i].toNat : Int) != G[i].toNat) = true := by simp; omega
              have hn := HN.out (fun e => by
                have e2 := congrArg (List.take (i + 1)) e
                rw [List.take_take, Nat.min_eq_left (by omega), t1, t2] at e2
                have := List.append_inj_right e2 (by rw [List.length_take, List.length_take, hlen, hlenG]; omega)
                simp at this
                exact hq (by rw [this]))
              have HZ : Hid _ := hn
              clear hn t1 t2 hq hil hlen hlenG
              go_wp2
              go_region
              go_wp2
              go_roundg g
              case measure => omega
              case rel => exact ⟨k + 1, by omega, by go_num, ⟨_, rfl⟩, HZ⟩
end Go.Proofs.YtnkjgggbiokfbaaGreatDoor
namespace Go.Proofs.YtnkjgggbiokfbaaGreatDoor
open Go.RowKit
set_option maxRecDepth 100000

theorem info5 : (Tryz.prog.info? 5).map (fun i => (i.zero, i.size, i.bytes)) = some (some (.int .u8 0), 1, 1) := by kernel_rfl
theorem under106 : Tryz.prog.underlying 101 = some (.slice 5) := by kernel_rfl
theorem under144 : Tryz.prog.underlying 134 = some (.pointer 5) := by kernel_rfl

set_option maxHeartbeats 1000000 in
theorem clone_any (s : ByteArray) (w : World) (hlim : s.size ≤ 281474976710656) :
    Calls Tryz.prog 187 #[.string s] w fun e w' => e = .returned (.string s) ∧ Fr [] w w' := by
  by_cases h0 : s.size = 0
  · have hs : s = ⟨#[]⟩ := by
      apply ByteArray.ext
      exact Array.eq_empty_of_size_eq_zero h0
    subst hs
    go_enter Tryz.func187, Tryz.ntmps187
    go_wp2
    go_ret
    exact ⟨rfl, Fr.refl _ _⟩
  · obtain ⟨i0, hi, hz0, hz1, hz2⟩ := info_parts info5
    have hinfo : (Tryz.prog.info? 5).map (·.size) = some 1 := by rw [hi]; simp [hz1]
    have hco : Tryz.prog.cellsOf 5 = 1 := by simp [Program.cellsOf, hi, hz1]
    obtain ⟨M, hM⟩ : ∃ M, M = madeCells (Value.int .u8 0).cells (((s.size : Nat) : Int).toNat * i0.size) := ⟨_, rfl⟩
    have hMs : M.size = s.size := by rw [hM, size_madeCells, hz1]; simp
    have hmk : ∀ W : World, (Instr.makeSlice 101 (.int .i64 (s.size : Int)) (.int .i64 (s.size : Int))).run Tryz.prog W = .ok (.slice (some ⟨W.heap.size, 0, none⟩) s.size s.size) (W.alloc (.cells M 5)) := fun W => by
      have h := run_make (P := Tryz.prog) W 101 5 i0 (.int .u8 0) under106 hi hz0 .i64 .i64 (s.size : Int) (s.size : Int) (by omega) (by omega) (by rw [hz2]; omega) (by omega)
      rw [← hM] at h
      simpa using h
    clear hM
    have hcp := Lib.run_copy_row_string (P := Tryz.prog) (w.alloc (.cells M 5)) 101 9 3 5 w.heap.size 0 s.size s.size s M 5 under106 hinfo (heap_alloc_new w _) (Nat.le_refl _) (by omega)
    obtain ⟨Y, hY⟩ : ∃ Y, Y = (M.toList.take 0 ++ Lib.byteCells s.data.toList ++ M.toList.drop (0 + s.size)).toArray := ⟨_, rfl⟩
    rw [← hY] at hcp
    have hYl : Y.toList = Lib.byteCells s.data.toList := by
      rw [hY, List.toList_toArray, List.take_zero, List.nil_append, List.drop_of_length_le (by rw [Array.length_toList]; omega), List.append_nil]
    have hYs : Y.size = s.size := by rw [← Array.length_toList, hYl, Lib.byteCells_length, ← Lib.size_eq]
    have hgY : ((w.alloc (.cells M 5)).setRow w.heap.size Y).heap[w.heap.size]? = some (.cells Y 5 (0, 0)) := setRow_heap _ _ M _ 5 (0, 0) (heap_alloc_new w _)
    have hne : s.data.toList ≠ [] := fun e => h0 (by rw [Lib.size_eq, e]; rfl)
    have hUS := Lib.run_unsafeString_row (P := Tryz.prog) ((w.alloc (.cells M 5)).setRow w.heap.size Y) 134 3 9 5 under144 hco w.heap.size Y.size (by unfold World.shape?; rw [hgY]) s.data.toList hne (by rw [← Lib.size_eq]; omega) (by rw [← Lib.size_eq]; omega)
      (fun j x hx => Lib.cells_of_row hgY Y.size j _ (by rw [List.take_of_length_le (by rw [Array.length_toList]; exact Nat.le_refl _), hYl]; simp [Lib.byteCells, hx]))
    rw [← Lib.size_eq] at hUS
    clear hY
    go_enter Tryz.func187, Tryz.ntmps187
    go_wp2
    go_ret
    have hb1 : Below w.heap.size w (w.alloc (.cells M 5)) := (Below.refl _ w).alloc (Nat.le_refl _) _
    have hb2 : Below w.heap.size (w.alloc (.cells M 5)) ((w.alloc (.cells M 5)).setRow w.heap.size Y) := ⟨rfl, rfl, rfl, by simp, fun k hk => setRow_other _ _ _ _ (by omega)⟩
    exact ⟨rfl, Fr.ofBelow (Lib.below_freeze (hb1.trans hb2) (p := ⟨w.heap.size, 0, none⟩) (Nat.le_refl _) _)⟩

theorem cloneS_any (s : ByteArray) (w : World) (hlim : s.size ≤ 281474976710656) :
    Calls Tryz.prog 164 #[.string s] w fun e w' => e = .returned (.string s) ∧ Fr [] w w' := by
  go_enter Tryz.func164, Tryz.ntmps164
  go_wp2_with (go_at_call 187; refine (clone_any _ _ hlim).mono ?_; rintro e w' ⟨rfl, hF⟩)
  go_ret
  exact ⟨rfl, hF⟩

/-- Block B holds a token. -/
def TB (w : World) (B : Nat) (v0 v1 v2 v3 v4 : Value) : Prop := w.heap[B]? = some (.cells #[v0, v1, v2, v3, v4] 58 (0, 0))
section
variable {w w' : World} {B : Nat} {v0 v1 v2 v3 v4 : Value}
theorem TB.c0 (h : TB w B v0 v1 v2 v3 v4) : w.cell? ⟨B, 0, none⟩ = some v0 := by simp [TB] at h; simp [World.cell?, h]
theorem TB.c1 (h : TB w B v0 v1 v2 v3 v4) : w.cell? ⟨B, 1, none⟩ = some v1 := by simp [TB] at h; simp [World.cell?, h]
theorem TB.c2 (h : TB w B v0 v1 v2 v3 v4) : w.cell? ⟨B, 2, none⟩ = some v2 := by simp [TB] at h; simp [World.cell?, h]
theorem TB.c3 (h : TB w B v0 v1 v2 v3 v4) : w.cell? ⟨B, 3, none⟩ = some v3 := by simp [TB] at h; simp [World.cell?, h]
theorem TB.c4 (h : TB w B v0 v1 v2 v3 v4) : w.cell? ⟨B, 4, none⟩ = some v4 := by simp [TB] at h; simp [World.cell?, h]
theorem TB.fz (h : TB w B v0 v1 v2 v3 v4) (i : Nat) : w.frozen? ⟨B, i, none⟩ = false := by simp [TB] at h; simp [World.frozen?, h]
theorem TB.lt (h : TB w B v0 v1 v2 v3 v4) : B < w.heap.size := (Array.getElem?_eq_some_iff.1 h).1
theorem TB.new (w : World) (v0 v1 v2 v3 v4 : Value) : TB (w.alloc (.cells #[v0, v1, v2, v3, v4] 58)) w.heap.size v0 v1 v2 v3 v4 := heap_alloc_new w _
theorem TB.fr {S : List Nat} (h : TB w B v0 v1 v2 v3 v4) (f : Fr S w w') (hS : B ∉ S) : TB w' B v0 v1 v2 v3 v4 := (f.block _ h.lt hS).trans h
theorem TB.drewN (h : TB w B v0 v1 v2 v3 v4) (n : Nat) : TB (w.drewN n) B v0 v1 v2 v3 v4 := h
theorem TB.set (h : TB w B v0 v1 v2 v3 v4) (u0 u1 u2 u3 u4 : Value) : TB (((((w.setCell ⟨B, 0, none⟩ u0).setCell ⟨B, 1, none⟩ u1).setCell ⟨B, 2, none⟩ u2).setCell ⟨B, 3, none⟩ u3).setCell ⟨B, 4, none⟩ u4) B u0 u1 u2 u3 u4 := by
  unfold TB at *
  simp [World.setCell, Array.getElem?_modify, h]
theorem TB.fset {S : List Nat} {a : World} (f : Fr S a w) (hB : B ∈ S ∨ a.heap.size ≤ B) (u0 u1 u2 u3 u4 : Value) : Fr S a (((((w.setCell ⟨B, 0, none⟩ u0).setCell ⟨B, 1, none⟩ u1).setCell ⟨B, 2, none⟩ u2).setCell ⟨B, 3, none⟩ u3).setCell ⟨B, 4, none⟩ u4) :=
  ((((f.setCell hB _).setCell hB _).setCell hB _).setCell hB _).setCell hB _
end

set_option maxHeartbeats 1000000 in
theorem made_any (kd a b : Nat) (s : ByteArray) (w : World) (hs : s.size ≤ 2 ^ 40) (hab : a ≤ b) (hb : b ≤ s.size) :
    Calls Tryz.prog 129 #[.int .i64 kd, .string s, .int .i64 a, .int .i64 b] w fun e w' => e = .returned (.agg #[.int .i64 kd, .string (s.extract a b), .int .i64 a, .int .i64 b, .int .i64 0]) ∧ Fr [] w w' := by
  have hx : (s.extract a b).size ≤ 281474976710656 := by rw [ByteArray.size_extract]; omega
  have hc := fun w => cloneS_any (s.extract a b) w hx
  clear hx
  have F0 : Fr [] w (w.alloc (.cells #[.int .i64 0, .string ⟨#[]⟩, .int .i64 0, .int .i64 0, .int .i64 0] 58)) := (Fr.refl _ _).alloc _
  have t0 := TB.new w (.int .i64 0) (.string ⟨#[]⟩) (.int .i64 0) (.int .i64 0) (.int .i64 0)
  go_enter Tryz.func129, Tryz.ntmps129
  go_wp2_with fail
  generalize hw1 : w.alloc _ = w1
  have F1 : Fr [] w w1 := by rw [← hw1]; exact F0
  have t1 : TB w1 w.heap.size (.int .i64 0) (.string ⟨#[]⟩) (.int .i64 0) (.int .i64 0) (.int .i64 0) := by rw [← hw1]; exact t0
  clear hw1 F0 t0
  have HG : Hid (w.heap.size ≤ w.heap.size) := Nat.le_refl _
  generalize hB : w.heap.size = B at t1 HG ⊢
  refine (hc _).mono ?_
  rintro e w2 ⟨rfl, hF⟩
  have t2 := t1.fr hF (by simp)
  have c0 := t2.c0
  have c1 := t2.c1
  have c2 := t2.c2
  have c3 := t2.c3
  have c4 := t2.c4
  have fz := t2.fz
  go_wp2
  have t3 := t2.set (.int .i64 kd) (.string (s.extract a b)) (.int .i64 a) (.int .i64 b) (.int .i64 0)
  have F3 := TB.fset (F1.trans hF) (B := B) (.inr (by omega)) (.int .i64 kd) (.string (s.extract a b)) (.int .i64 a) (.int .i64 b) (.int .i64 0)
  refine bodyPost_ret (v := .agg #[.int .i64 kd, .string (s.extract a b), .int .i64 a, .int .i64 b, .int .i64 0]) ?_ rfl ⟨rfl, F3⟩
  have d0 := t3.c0
  have d1 := t3.c1
  have d2 := t3.c2
  have d3 := t3.c3
  have d4 := t3.c4
  clear c0 c1 c2 c3 c4 fz t2 t3
  generalize ((((w2.setCell _ _).setCell _ _).setCell _ _).setCell _ _).setCell _ _ = w3 at *
  simp [results, Tryz.results129, go_sem, d0, d1, d2, d3, d4]
end Go.Proofs.YtnkjgggbiokfbaaGreatDoor
namespace Go.Proofs.YtnkjgggbiokfbaaGreatDoor
open Go.RowKit
set_option maxRecDepth 100000

def tokA (t : Tok) : Array Value := #[.int .i64 t.kind, .string ⟨t.text.toArray⟩, .int .i64 t.frm, .int .i64 t.to, .int .i64 t.n]

set_option maxRecDepth 100000 in
set_option maxHeartbeats 2000000 in
theorem readName_raw (s : ByteArray) (k : Nat) (w : World) (hs : s.size ≤ 2 ^ 40) (hk : k ≤ s.size) (T : Tabs w) (kd : Nat) (hkd : kd = if wrd (s.extract k (rnE s k)) then 2 else 1) :
    Calls Tryz.prog 125 #[.string s, .int .i64 k] w fun e w' => e = .returned (.agg #[.int .i64 kd, .string (s.extract k (rnE s k)), .int .i64 k, .int .i64 (rnE s k), .int .i64 0]) ∧ Fr [] w w' := by
  have hrl := rnE_le s k hk
  have hR := fun w T => runEnd_any s k w (by unfold maxLen; omega) hk T
  have hM := fun w => made_any 1 k (rnE s k) s w hs hrl.1 hrl.2
  have hW := fun w => isWord_any (s.extract k (rnE s k)) w
  generalize wrd (s.extract k (rnE s k)) = wd at *
  generalize s.extract k (rnE s k) = X at *
  generalize rnE s k = E at *
  have F0 : Fr [] w (w.alloc (.cells #[.int .i64 0, .string ⟨#[]⟩, .int .i64 0, .int .i64 0, .int .i64 0] 58)) := (Fr.refl _ _).alloc _
  have t0 := TB.new w (.int .i64 0) (.string ⟨#[]⟩) (.int .i64 0) (.int .i64 0) (.int .i64 0)
  go_enter Tryz.func125, Tryz.ntmps125
  go_wp2_with fail
  generalize hw1 : w.alloc _ = w1
  have F1 : Fr [] w w1 := by rw [← hw1]; exact F0
  have t1 : TB w1 w.heap.size (.int .i64 0) (.string ⟨#[]⟩) (.int .i64 0) (.int .i64 0) (.int .i64 0) := by rw [← hw1]; exact t0
  clear hw1 F0 t0
  have T1 := T.fr F1 (by simp)
  generalize hB : w.heap.size = B at t1 ⊢
  refine (hR w1 T1).mono ?_
  rintro e w1' ⟨rfl, e1⟩
  subst e1
  go_wp2_with fail
  refine (hM _).mono ?_
  rintro e w2 ⟨rfl, hF⟩
  have t2 := t1.fr hF (by simp)
  go_wp2_with fail
  have F3 : Fr [] w2 (w2.alloc (.cells #[.int .i64 1, .string X, .int .i64 k, .int .i64 E, .int .i64 0] 58)) := (Fr.refl _ _).alloc _
  have u3 := TB.new w2 (.int .i64 1) (.string X) (.int .i64 k) (.int .i64 E) (.int .i64 0)
  have t3 := t2.fr F3 (by simp)
  have hCB : B < w2.heap.size := t2.lt
  have hsz := (F1.trans hF).size
  have F4 := (F1.trans hF).trans F3
  generalize w2.alloc (.cells #[.int .i64 1, .string X, .int .i64 k, .int .i64 E, .int .i64 0] 58) = w3 at *
  generalize w2.heap.size = C at *
  refine (hW w3).mono ?_
  rintro e w3 ⟨rfl, rfl⟩
  have hne : C ≠ B := by omega
  have hne' : B ≠ C := by omega
  clear hCB hrl
  have HH : Hid (w.heap.size = B ∧ w.heap.size ≤ C) := ⟨hB, hsz⟩
  clear hB hsz t2 t1 T1 F1
  have a0 := t3.c0
  have a1 := t3.c1
  have a2 := t3.c2
  have a3 := t3.c3
  have a4 := t3.c4
  have b0 := u3.c0
  have b1 := u3.c1
  have b2 := u3.c2
  have b3 := u3.c3
  have b4 := u3.c4
  have fz := t3.fz
  have gz := u3.fz
  cases wd
  · simp only [Bool.false_eq_true, if_false] at hkd
    subst hkd
    go_wp2
    have t4 := t3.set (.int .i64 1) (.string X) (.int .i64 k) (.int .i64 E) (.int .i64 0)
    have F5 := TB.fset F4 (B := B) (.inr (by have := HH.out; omega)) (.int .i64 1) (.string X) (.int .i64 k) (.int .i64 E) (.int .i64 0)
    refine bodyPost_ret (v := .agg #[.int .i64 1, .string X, .int .i64 k, .int .i64 E, .int .i64 0]) ?_ rfl ⟨rfl, F5⟩
    have d0 := t4.c0
    have d1 := t4.c1
    have d2 := t4.c2
    have d3 := t4.c3
    have d4 := t4.c4
    clear a0 a1 a2 a3 a4 fz b0 b1 b2 b3 b4 gz t3 u3 t4 F5
    generalize ((((w3.setCell _ _).setCell _ _).setCell _ _).setCell _ _).setCell _ _ = w4 at *
    simp [results, Tryz.results125, go_sem, d0, d1, d2, d3, d4]
  · simp only [if_true] at hkd
    subst hkd
    go_wp2
    have F4' := F4.setCell (p := ⟨C, 0, none⟩) (.inr (by have := HH.out; simp; omega)) (.int .i64 2)
    have t3' := t3.fr (Fr.setCell (S := [C]) (p := ⟨C, 0, none⟩) (Fr.refl _ w3) (.inl (by simp)) (.int .i64 2)) (by simpa using hne')
    have t4 := t3'.set (.int .i64 2) (.string X) (.int .i64 k) (.int .i64 E) (.int .i64 0)
    have F5 := TB.fset F4' (B := B) (.inr (by have := HH.out; omega)) (.int .i64 2) (.string X) (.int .i64 k) (.int .i64 E) (.int .i64 0)
    refine bodyPost_ret (v := .agg #[.int .i64 2, .string X, .int .i64 k, .int .i64 E, .int .i64 0]) ?_ rfl ⟨rfl, F5⟩
    have d0 := t4.c0
    have d1 := t4.c1
    have d2 := t4.c2
    have d3 := t4.c3
    have d4 := t4.c4
    clear a0 a1 a2 a3 a4 fz b0 b1 b2 b3 b4 gz t3 u3 t4 F5 t3' F4'
    generalize (((((w3.setCell _ _).setCell _ _).setCell _ _).setCell _ _).setCell _ _).setCell _ _ = w4 at *
    simp [results, Tryz.results125, go_sem, d0, d1, d2, d3, d4]

theorem extract_tok (s : ByteArray) (k m : Nat) : s.extract k (k + m) = ⟨((s.data.toList.drop k).take m).toArray⟩ := by
  rw [Lib.extract_eq]
  simp
theorem wrd_mk (l : List UInt8) : wrd ⟨l.toArray⟩ = wordL l := by simp [wrd]
theorem num_mk (l : List UInt8) : num ⟨l.toArray⟩ = numL l := by simp [num]

theorem readName_any (s : ByteArray) (k : Nat) (w : World) (hs : s.size ≤ 2 ^ 40) (hk : k ≤ s.size) (T : Tabs w) :
    Calls Tryz.prog 125 #[.string s, .int .i64 k] w fun e w' => e = .returned (.agg (tokA ⟨if wordL ((s.data.toList.drop k).take (runL (s.data.toList.drop k))) then 2 else 1, (s.data.toList.drop k).take (runL (s.data.toList.drop k)), k, k + runL (s.data.toList.drop k), 0⟩)) ∧ Fr [] w w' := by
  refine (readName_raw s k w hs hk T _ rfl).mono ?_
  rintro e w' ⟨rfl, hF⟩
  refine ⟨?_, hF⟩
  unfold rnE
  rw [extract_tok, wrd_mk]
  rfl

end Go.Proofs.YtnkjgggbiokfbaaGreatDoor
namespace Go.Proofs.YtnkjgggbiokfbaaGreatDoor
open Go.RowKit
set_option maxRecDepth 100000

set_option maxRecDepth 100000 in
set_option maxHeartbeats 400000 in
/-- A number, or an error. -/
theorem readNumber_none (s : ByteArray) (a b : Nat) (w : World) (hs : s.size ≤ 2 ^ 40) (hab : a ≤ b) (hb : b ≤ s.size) (hn : num (s.extract a b) = none) :
    Calls Tryz.prog 126 #[.string s, .int .i64 a, .int .i64 b] w fun e w' => e = .returned (.tuple #[.agg #[.int .i64 0, .string ⟨#[]⟩, .int .i64 a, .int .i64 0, .int .i64 0], .int .i64 41]) ∧ Fr [] w w' := by
  have hN := fun w => number_any (s.extract a b) w (by rw [ByteArray.size_extract]; unfold maxLen; omega)
  rw [hn, nOut] at hN
  simp only [Option.getD_none, Option.isSome_none] at hN
  go_enter Tryz.func126, Tryz.ntmps126
  go_wp2_with (go_at_call 149; refine (hN _).mono ?_; rintro e w' ⟨rfl, rfl⟩)
  exact bodyPost_ret (v := .tuple #[.agg #[.int .i64 0, .string ⟨#[]⟩, .int .i64 a, .int .i64 0, .int .i64 0], .int .i64 41]) (by simp [results, Tryz.results126, go_sem]) rfl ⟨rfl, (Fr.refl _ _).alloc _⟩

set_option maxRecDepth 100000 in
set_option maxHeartbeats 400000 in
theorem readNumber_some (s : ByteArray) (a b : Nat) (w : World) (hs : s.size ≤ 2 ^ 40) (hab : a ≤ b) (hb : b ≤ s.size) (n : Nat) (hn : num (s.extract a b) = some n) :
    Calls Tryz.prog 126 #[.string s, .int .i64 a, .int .i64 b] w fun e w' => e = .returned (.tuple #[.agg #[.int .i64 4, .string (s.extract a b), .int .i64 a, .int .i64 b, .int .i64 n], .int .i64 0]) ∧ Fr [] w w' := by
  have hN := fun w => number_any (s.extract a b) w (by rw [ByteArray.size_extract]; unfold maxLen; omega)
  rw [hn, nOut] at hN
  simp only [Option.getD_some, Option.isSome_some] at hN
  have hM := fun w => made_any 4 a b s w hs hab hb
  have F0 : Fr [] w (w.alloc (.cells #[.int .i64 0, .string ⟨#[]⟩, .int .i64 0, .int .i64 0, .int .i64 0] 58)) := (Fr.refl _ _).alloc _
  have t0 := TB.new w (.int .i64 0) (.string ⟨#[]⟩) (.int .i64 0) (.int .i64 0) (.int .i64 0)
  clear hn
  go_enter Tryz.func126, Tryz.ntmps126
  go_wp2_with fail
  generalize hw1 : w.alloc _ = w1
  have F1 : Fr [] w w1 := by rw [← hw1]; exact F0
  have t1 : TB w1 w.heap.size (.int .i64 0) (.string ⟨#[]⟩) (.int .i64 0) (.int .i64 0) (.int .i64 0) := by rw [← hw1]; exact t0
  clear hw1 F0 t0
  generalize hB : w.heap.size = B at t1 ⊢
  refine (hN w1).mono ?_
  rintro e w1 ⟨rfl, rfl⟩
  go_wp2_with fail
  refine (hM _).mono ?_
  rintro e w2 ⟨rfl, hF⟩
  have t2 := t1.fr hF (by simp)
  have hCB := t2.lt
  have F2 := F1.trans hF
  have a0 := t2.c0
  have a1 := t2.c1
  have a2 := t2.c2
  have a3 := t2.c3
  have a4 := t2.c4
  have fz := t2.fz
  have HB : Hid (w.heap.size = B) := hB
  clear hB t1 F1 hF
  go_wp2
  have t4 := (t2.set (.int .i64 4) (.string (s.extract a b)) (.int .i64 a) (.int .i64 b) (.int .i64 n)).fr (Fr.alloc (S := []) (Fr.refl _ _) (.cells #[.int .i64 4, .string (s.extract a b), .int .i64 a, .int .i64 b, .int .i64 n] 58)) (by simp)
  have F5 := (TB.fset F2 (B := B) (.inr (by have := HB.out; omega)) (.int .i64 4) (.string (s.extract a b)) (.int .i64 a) (.int .i64 b) (.int .i64 n)).alloc (.cells #[.int .i64 4, .string (s.extract a b), .int .i64 a, .int .i64 b, .int .i64 n] 58)
  refine bodyPost_ret (v := .tuple #[.agg #[.int .i64 4, .string (s.extract a b), .int .i64 a, .int .i64 b, .int .i64 n], .int .i64 0]) ?_ rfl ⟨rfl, F5⟩
  have d0 := t4.c0
  have d1 := t4.c1
  have d2 := t4.c2
  have d3 := t4.c3
  have d4 := t4.c4
  clear a0 a1 a2 a3 a4 fz t4 F5 t2 hN hM
  generalize (((((w2.setCell _ _).setCell _ _).setCell _ _).setCell _ _).setCell _ _).alloc _ = w4 at *
  simp [results, Tryz.results126, go_sem, d0, d1, d2, d3, d4]

/-- What read hands back. -/
def rdA (p : Nat) : Except Nat Tok → Array Value
  | .ok t => tokA t
  | .error _ => #[.int .i64 0, .string ⟨#[]⟩, .int .i64 p, .int .i64 0, .int .i64 0]
def rdE : Except Nat Tok → Nat
  | .ok _ => 0
  | .error e => e
def rd (s : ByteArray) (k : Nat) : Except Nat Tok := readL k (s.data.toList.drop k)

theorem drop_getD (s : ByteArray) (k : Nat) (h : k < s.size) : (s.data.toList.drop k).getD 0 0 = s[k] := by rw [drop_cons s k h]; rfl

/-- A number at a, up to b. -/
def nmR (s : ByteArray) (a b : Nat) : Except Nat Tok := match num (s.extract a b) with | none => .error 41 | some n => .ok ⟨4, (s.data.toList.drop a).take (b - a), a, b, n⟩
theorem nmR_any (s : ByteArray) (a b : Nat) (w : World) (hs : s.size ≤ 2 ^ 40) (hab : a ≤ b) (hb : b ≤ s.size) :
    Calls Tryz.prog 126 #[.string s, .int .i64 a, .int .i64 b] w fun e w' => ∃ x0 X x2 x3 x4, rdA a (nmR s a b) = #[.int .i64 x0, .string X, .int .i64 x2, .int .i64 x3, .int .i64 x4] ∧ e = .returned (.tuple #[.agg #[.int .i64 x0, .string X, .int .i64 x2, .int .i64 x3, .int .i64 x4], .int .i64 (rdE (nmR s a b))]) ∧ Fr [] w w' := by
  cases hn : num (s.extract a b) with
  | none =>
    have e1 : nmR s a b = .error 41 := by unfold nmR; rw [hn]
    refine (readNumber_none s a b w hs hab hb hn).mono ?_
    rintro e w' ⟨rfl, hF⟩
    rw [e1]
    exact ⟨_, _, _, _, _, rfl, rfl, hF⟩
  | some n =>
    have e1 : nmR s a b = .ok ⟨4, (s.data.toList.drop a).take (b - a), a, b, n⟩ := by unfold nmR; rw [hn]
    refine (readNumber_some s a b w hs hab hb n hn).mono ?_
    rintro e w' ⟨rfl, hF⟩
    rw [e1]
    refine ⟨_, _, _, _, _, rfl, ?_, hF⟩
    rw [Lib.extract_eq]
    rfl
end Go.Proofs.YtnkjgggbiokfbaaGreatDoor
namespace Go.Proofs.YtnkjgggbiokfbaaGreatDoor
open Go.RowKit
set_option maxRecDepth 100000

/-- What read leaves. -/
def rdOut (s : ByteArray) (k : Nat) : Ending := .returned (.tuple #[.agg (rdA k (rd s k)), .int .i64 (rdE (rd s k))])

set_option maxRecDepth 100000 in
set_option maxHeartbeats 400000 in
theorem read_name (s : ByteArray) (k : Nat) (w : World) (hs : s.size ≤ 2 ^ 40) (hk : k < s.size) (T : Tabs w) (h2 : kindN s[k].toNat = 2) :
    Calls Tryz.prog 77 #[.string s, .int .i64 k] w fun e w' => e = rdOut s k ∧ Fr [] w w' := by
  have hb := byte_lt s[k]
  have hK := fun w T => kindOf_any s[k].toNat w hb T
  rw [h2] at hK
  have hN := fun w T => readName_any s k w hs (Nat.le_of_lt hk) T
  have er : rd s k = .ok ⟨if wordL ((s.data.toList.drop k).take (runL (s.data.toList.drop k))) then 2 else 1, (s.data.toList.drop k).take (runL (s.data.toList.drop k)), k, k + runL (s.data.toList.drop k), 0⟩ := by
    unfold rd readL
    rw [drop_getD s k hk, if_pos h2]
  have hE : Hid (rdOut s k = .returned (.tuple #[.agg (tokA ⟨if wordL ((s.data.toList.drop k).take (runL (s.data.toList.drop k))) then 2 else 1, (s.data.toList.drop k).take (runL (s.data.toList.drop k)), k, k + runL (s.data.toList.drop k), 0⟩), .int .i64 0])) := by
    show _ = _
    unfold rdOut
    rw [er]
    rfl
  generalize (⟨if wordL ((s.data.toList.drop k).take (runL (s.data.toList.drop k))) then 2 else 1, (s.data.toList.drop k).take (runL (s.data.toList.drop k)), k, k + runL (s.data.toList.drop k), 0⟩ : Tok) = t at hN hE
  unfold tokA at hN hE
  generalize rdOut s k = R at *
  generalize (t.kind : Int) = x0 at hN hE
  generalize (⟨t.text.toArray⟩ : ByteArray) = X at hN hE
  generalize (t.frm : Int) = x2 at hN hE
  generalize (t.to : Int) = x3 at hN hE
  generalize (t.n : Int) = x4 at hN hE
  clear h2 er
  have F0 : Fr [] w (w.alloc (.cells #[.int .i64 0, .string ⟨#[]⟩, .int .i64 0, .int .i64 0, .int .i64 0] 58)) := (Fr.refl _ _).alloc _
  have t0 := TB.new w (.int .i64 0) (.string ⟨#[]⟩) (.int .i64 0) (.int .i64 0) (.int .i64 0)
  go_enter Tryz.func77, Tryz.ntmps77
  go_wp2_with fail
  generalize hw1 : w.alloc _ = w1
  have F1 : Fr [] w w1 := by rw [← hw1]; exact F0
  have t1 : TB w1 w.heap.size (.int .i64 0) (.string ⟨#[]⟩) (.int .i64 0) (.int .i64 0) (.int .i64 0) := by rw [← hw1]; exact t0
  clear hw1 F0 t0
  have T1 := T.fr F1 (by simp)
  generalize hB : w.heap.size = B at t1 ⊢
  refine (hK w1 T1).mono ?_
  rintro e w1 ⟨rfl, rfl⟩
  go_wp2_with fail
  refine (hN _ T1).mono ?_
  rintro e w2 ⟨rfl, hF⟩
  have t2 := t1.fr hF (by simp)
  have F2 := F1.trans hF
  have a0 := t2.c0
  have a1 := t2.c1
  have a2 := t2.c2
  have a3 := t2.c3
  have a4 := t2.c4
  have fz := t2.fz
  have HB : Hid (w.heap.size = B) := hB
  clear hB t1 F1 hF T1 hK
  go_wp2
  have t4 := t2.set (.int .i64 x0) (.string X) (.int .i64 x2) (.int .i64 x3) (.int .i64 x4)
  have F5 := TB.fset F2 (B := B) (.inr (by have := HB.out; omega)) (.int .i64 x0) (.string X) (.int .i64 x2) (.int .i64 x3) (.int .i64 x4)
  refine bodyPost_ret (v := .tuple #[.agg #[.int .i64 x0, .string X, .int .i64 x2, .int .i64 x3, .int .i64 x4], .int .i64 0]) ?_ rfl ⟨by rw [hE.out], F5⟩
  have d0 := t4.c0
  have d1 := t4.c1
  have d2 := t4.c2
  have d3 := t4.c3
  have d4 := t4.c4
  clear a0 a1 a2 a3 a4 fz t4 F5 t2
  generalize ((((w2.setCell _ _).setCell _ _).setCell _ _).setCell _ _).setCell _ _ = w4 at *
  simp [results, Tryz.results77, go_sem, d0, d1, d2, d3, d4]

set_option maxRecDepth 100000 in
set_option maxHeartbeats 400000 in
theorem read_digit (s : ByteArray) (k : Nat) (w : World) (hs : s.size ≤ 2 ^ 40) (hk : k < s.size) (T : Tabs w) (h3 : kindN s[k].toNat = 3) :
    Calls Tryz.prog 77 #[.string s, .int .i64 k] w fun e w' => e = rdOut s k ∧ Fr [] w w' := by
  have hb := byte_lt s[k]
  have hK := fun w T => kindOf_any s[k].toNat w hb T
  rw [h3] at hK
  have hrl := rnE_le s k (Nat.le_of_lt hk)
  have hR := fun w T => runEnd_any s k w (by unfold maxLen; omega) (Nat.le_of_lt hk) T
  have hN := fun w => nmR_any s k (rnE s k) w hs hrl.1 hrl.2
  have er : rd s k = nmR s k (rnE s k) := by
    unfold rd readL nmR rnE
    rw [drop_getD s k hk, if_neg (by omega), if_pos h3, extract_tok, num_mk, Nat.add_sub_cancel_left]
    rfl
  have hE : Hid (rdOut s k = .returned (.tuple #[.agg (rdA k (nmR s k (rnE s k))), .int .i64 (rdE (nmR s k (rnE s k)))])) := by
    show _ = _
    unfold rdOut
    rw [er]
  generalize rdOut s k = R at *
  generalize rdA k (nmR s k (rnE s k)) = A at hN hE
  generalize (rdE (nmR s k (rnE s k)) : Int) = c at hN hE
  generalize rnE s k = E at *
  clear h3 er hrl
  have F0 : Fr [] w (w.alloc (.cells #[.int .i64 0, .string ⟨#[]⟩, .int .i64 0, .int .i64 0, .int .i64 0] 58)) := (Fr.refl _ _).alloc _
  have t0 := TB.new w (.int .i64 0) (.string ⟨#[]⟩) (.int .i64 0) (.int .i64 0) (.int .i64 0)
  go_enter Tryz.func77, Tryz.ntmps77
  go_wp2_with fail
  generalize hw1 : w.alloc _ = w1
  have F1 : Fr [] w w1 := by rw [← hw1]; exact F0
  have t1 : TB w1 w.heap.size (.int .i64 0) (.string ⟨#[]⟩) (.int .i64 0) (.int .i64 0) (.int .i64 0) := by rw [← hw1]; exact t0
  clear hw1 F0 t0
  have T1 := T.fr F1 (by simp)
  generalize hB : w.heap.size = B at t1 ⊢
  refine (hK w1 T1).mono ?_
  rintro e w1 ⟨rfl, rfl⟩
  go_wp2_with fail
  refine (hR _ T1).mono ?_
  rintro e w1 ⟨rfl, rfl⟩
  go_wp2_with fail
  refine (hN _).mono ?_
  rintro e w2 ⟨x0, X, x2, x3, x4, hA, rfl, hF⟩
  have HA : Hid _ := hA
  clear hA hR
  have t2 := t1.fr hF (by simp)
  have F2 := F1.trans hF
  have a0 := t2.c0
  have a1 := t2.c1
  have a2 := t2.c2
  have a3 := t2.c3
  have a4 := t2.c4
  have fz := t2.fz
  have HB : Hid (w.heap.size = B) := hB
  clear hB t1 F1 hF T1 hK
  go_wp2
  have t4 := t2.set (.int .i64 x0) (.string X) (.int .i64 x2) (.int .i64 x3) (.int .i64 x4)
  have F5 := TB.fset F2 (B := B) (.inr (by have := HB.out; omega)) (.int .i64 x0) (.string X) (.int .i64 x2) (.int .i64 x3) (.int .i64 x4)
  refine bodyPost_ret (v := .tuple #[.agg #[.int .i64 x0, .string X, .int .i64 x2, .int .i64 x3, .int .i64 x4], .int .i64 c]) ?_ rfl ⟨by rw [hE.out, HA.out], F5⟩
  have d0 := t4.c0
  have d1 := t4.c1
  have d2 := t4.c2
  have d3 := t4.c3
  have d4 := t4.c4
  clear a0 a1 a2 a3 a4 fz t4 F5 t2
  generalize ((((w2.setCell _ _).setCell _ _).setCell _ _).setCell _ _).setCell _ _ = w4 at *
  simp [results, Tryz.results77, go_sem, d0, d1, d2, d3, d4]

set_option maxRecDepth 100000 in
set_option maxHeartbeats 400000 in
theorem read_quote (s : ByteArray) (k : Nat) (w : World) (hs : s.size ≤ 2 ^ 40) (hk : k < s.size) (T : Tabs w) (h4 : kindN s[k].toNat = 4) :
    Calls Tryz.prog 77 #[.string s, .int .i64 k] w fun e w' => e = rdOut s k ∧ Fr [] w w' := by
  have hb := byte_lt s[k]
  have hK := fun w T => kindOf_any s[k].toNat w hb T
  rw [h4] at hK
  have hN := fun w => nmR_any s k (min (k + 3) s.size) w hs (by omega) (by omega)
  have hl : (s.data.toList.drop k).length = s.size - k := by rw [List.length_drop, ← Lib.size_eq]
  have e3 : (s.data.toList.drop k).take 3 = (s.data.toList.drop k).take (min (k + 3) s.size - k) := by
    by_cases h : k + 3 ≤ s.size
    · rw [show min (k + 3) s.size - k = 3 from by omega]
    · rw [show min (k + 3) s.size - k = s.size - k from by omega, List.take_of_length_le (by omega), List.take_of_length_le (by omega)]
  have er : rd s k = nmR s k (min (k + 3) s.size) := by
    unfold rd readL nmR
    rw [drop_getD s k hk, if_neg (by omega), if_neg (by omega), if_pos h4, Lib.extract_eq, num_mk, e3, hl]
    rw [show k + min 3 (s.size - k) = min (k + 3) s.size from by omega]
    rfl
  have hE : Hid (rdOut s k = .returned (.tuple #[.agg (rdA k (nmR s k (min (k + 3) s.size))), .int .i64 (rdE (nmR s k (min (k + 3) s.size)))])) := by
    show _ = _
    unfold rdOut
    rw [er]
  generalize rdOut s k = R at *
  generalize rdA k (nmR s k (min (k + 3) s.size)) = A at hN hE
  generalize (rdE (nmR s k (min (k + 3) s.size)) : Int) = c at hN hE
  have hN' : ∀ m : Int, m = ((min (k + 3) s.size : Nat) : Int) → ∀ w, Calls Tryz.prog 126 #[.string s, .int .i64 k, .int .i64 m] w fun e w' => ∃ x0 X x2 x3 x4, A = #[.int .i64 x0, .string X, .int .i64 x2, .int .i64 x3, .int .i64 x4] ∧ e = .returned (.tuple #[.agg #[.int .i64 x0, .string X, .int .i64 x2, .int .i64 x3, .int .i64 x4], .int .i64 c]) ∧ Fr [] w w' := fun m hm w => by rw [hm]; exact hN w
  clear h4 er e3 hl hN
  have F0 : Fr [] w (w.alloc (.cells #[.int .i64 0, .string ⟨#[]⟩, .int .i64 0, .int .i64 0, .int .i64 0] 58)) := (Fr.refl _ _).alloc _
  have t0 := TB.new w (.int .i64 0) (.string ⟨#[]⟩) (.int .i64 0) (.int .i64 0) (.int .i64 0)
  go_enter Tryz.func77, Tryz.ntmps77
  go_wp2_with fail
  generalize hw1 : w.alloc _ = w1
  have F1 : Fr [] w w1 := by rw [← hw1]; exact F0
  have t1 : TB w1 w.heap.size (.int .i64 0) (.string ⟨#[]⟩) (.int .i64 0) (.int .i64 0) (.int .i64 0) := by rw [← hw1]; exact t0
  clear hw1 F0 t0
  have T1 := T.fr F1 (by simp)
  generalize hB : w.heap.size = B at t1 ⊢
  refine (hK w1 T1).mono ?_
  rintro e w1 ⟨rfl, rfl⟩
  go_wp2_with fail
  all_goals
    refine (hN' _ (by omega) _).mono ?_
    rintro e w2 ⟨x0, X, x2, x3, x4, hA, rfl, hF⟩
    have HA : Hid _ := hA
    clear hA hN'
    have t2 := t1.fr hF (by simp)
    have F2 := F1.trans hF
    have a0 := t2.c0
    have a1 := t2.c1
    have a2 := t2.c2
    have a3 := t2.c3
    have a4 := t2.c4
    have fz := t2.fz
    have HB : Hid (w.heap.size = B) := hB
    clear hB t1 F1 hF T1 hK
    go_wp2
    have t4 := t2.set (.int .i64 x0) (.string X) (.int .i64 x2) (.int .i64 x3) (.int .i64 x4)
    have F5 := TB.fset F2 (B := B) (.inr (by have := HB.out; omega)) (.int .i64 x0) (.string X) (.int .i64 x2) (.int .i64 x3) (.int .i64 x4)
    refine bodyPost_ret (v := .tuple #[.agg #[.int .i64 x0, .string X, .int .i64 x2, .int .i64 x3, .int .i64 x4], .int .i64 c]) ?_ rfl ⟨by rw [hE.out, HA.out], F5⟩
    have d0 := t4.c0
    have d1 := t4.c1
    have d2 := t4.c2
    have d3 := t4.c3
    have d4 := t4.c4
    clear a0 a1 a2 a3 a4 fz t4 F5 t2
    generalize ((((w2.setCell _ _).setCell _ _).setCell _ _).setCell _ _).setCell _ _ = w4 at *
    simp [results, Tryz.results77, go_sem, d0, d1, d2, d3, d4]

set_option maxRecDepth 100000 in
set_option maxHeartbeats 400000 in
theorem read_bad (s : ByteArray) (k : Nat) (w : World) (hs : s.size ≤ 2 ^ 40) (hk : k < s.size) (T : Tabs w) (h2 : ¬ kindN s[k].toNat = 2) (h3 : ¬ kindN s[k].toNat = 3) (h4 : ¬ kindN s[k].toNat = 4) (hz : signL (s.data.toList.drop k) = 0) :
    Calls Tryz.prog 77 #[.string s, .int .i64 k] w fun e w' => e = rdOut s k ∧ Fr [] w w' := by
  have hb := byte_lt s[k]
  have hK := fun w T => kindOf_any s[k].toNat w hb T
  have h2' : ((kindN s[k].toNat : Int) == 2) = false := beq_int_false (by omega)
  have h3' : ((kindN s[k].toNat : Int) == 3) = false := beq_int_false (by omega)
  have h4' : ((kindN s[k].toNat : Int) == 4) = false := beq_int_false (by omega)
  have hx : (s.extract k s.size).size ≤ maxLen := by rw [ByteArray.size_extract]; unfold maxLen; omega
  have hS := fun w T => signLength_any (s.extract k s.size) w hx T
  have es : sgn (s.extract k s.size) = signL (s.data.toList.drop k) := by unfold sgn; rw [extract_rest]
  rw [es] at hS
  clear hx es
  have er : rd s k = .error 40 := by
    unfold rd readL
    rw [drop_getD s k hk, if_neg h2, if_neg h3, if_neg h4, if_pos hz]
  have hE : Hid (rdOut s k = .returned (.tuple #[.agg #[.int .i64 0, .string ⟨#[]⟩, .int .i64 k, .int .i64 0, .int .i64 0], .int .i64 40])) := by
    show _ = _
    unfold rdOut
    rw [er]
    rfl
  rw [hz] at hS
  generalize rdOut s k = R at *
  generalize kindN s[k].toNat = K at *
  clear h2 h3 h4 er hz
  have F0 : Fr [] w (w.alloc (.cells #[.int .i64 0, .string ⟨#[]⟩, .int .i64 0, .int .i64 0, .int .i64 0] 58)) := (Fr.refl _ _).alloc _
  have t0 := TB.new w (.int .i64 0) (.string ⟨#[]⟩) (.int .i64 0) (.int .i64 0) (.int .i64 0)
  go_enter Tryz.func77, Tryz.ntmps77
  go_wp2_with fail
  generalize hw1 : w.alloc _ = w1
  have F1 : Fr [] w w1 := by rw [← hw1]; exact F0
  have t1 : TB w1 w.heap.size (.int .i64 0) (.string ⟨#[]⟩) (.int .i64 0) (.int .i64 0) (.int .i64 0) := by rw [← hw1]; exact t0
  clear hw1 F0 t0
  have T1 := T.fr F1 (by simp)
  generalize hB : w.heap.size = B at t1 ⊢
  refine (hK w1 T1).mono ?_
  rintro e w1 ⟨rfl, rfl⟩
  go_wp2_with fail
  refine (hS _ T1).mono ?_
  rintro e w2 ⟨rfl, nn, rfl⟩
  have hF : Fr [] w1 (w1.drewN nn) := (Fr.refl _ _).drewN nn
  have t2 := t1.fr hF (by simp)
  have F2 := F1.trans hF
  have a0 := t2.c0
  have a1 := t2.c1
  have a2 := t2.c2
  have a3 := t2.c3
  have a4 := t2.c4
  have fz := t2.fz
  have HB : Hid (w.heap.size = B) := hB
  clear hB t1 F1 hF T1 hK
  go_wp2
  have t4 := t2.set (.int .i64 0) (.string ⟨#[]⟩) (.int .i64 k) (.int .i64 0) (.int .i64 0)
  have F5 := TB.fset F2 (B := B) (.inr (by have := HB.out; omega)) (.int .i64 0) (.string ⟨#[]⟩) (.int .i64 k) (.int .i64 0) (.int .i64 0)
  refine bodyPost_ret (v := .tuple #[.agg #[.int .i64 0, .string ⟨#[]⟩, .int .i64 k, .int .i64 0, .int .i64 0], .int .i64 40]) ?_ rfl ⟨by rw [hE.out], F5⟩
  have d0 := t4.c0
  have d1 := t4.c1
  have d2 := t4.c2
  have d3 := t4.c3
  have d4 := t4.c4
  clear a0 a1 a2 a3 a4 fz t4 F5 t2
  generalize (((((w1.drewN nn).setCell _ _).setCell _ _).setCell _ _).setCell _ _).setCell _ _ = w4 at *
  simp [results, Tryz.results77, go_sem, d0, d1, d2, d3, d4]

set_option maxRecDepth 100000 in
set_option maxHeartbeats 400000 in
theorem read_sign (s : ByteArray) (k : Nat) (w : World) (hs : s.size ≤ 2 ^ 40) (hk : k < s.size) (T : Tabs w) (h2 : ¬ kindN s[k].toNat = 2) (h3 : ¬ kindN s[k].toNat = 3) (h4 : ¬ kindN s[k].toNat = 4) (hz : ¬ signL (s.data.toList.drop k) = 0) (hle : k + signL (s.data.toList.drop k) ≤ s.size) :
    Calls Tryz.prog 77 #[.string s, .int .i64 k] w fun e w' => e = rdOut s k ∧ Fr [] w w' := by
  have hb := byte_lt s[k]
  have hK := fun w T => kindOf_any s[k].toNat w hb T
  have h2' : ((kindN s[k].toNat : Int) == 2) = false := beq_int_false (by omega)
  have h3' : ((kindN s[k].toNat : Int) == 3) = false := beq_int_false (by omega)
  have h4' : ((kindN s[k].toNat : Int) == 4) = false := beq_int_false (by omega)
  have hx : (s.extract k s.size).size ≤ maxLen := by rw [ByteArray.size_extract]; unfold maxLen; omega
  have hS := fun w T => signLength_any (s.extract k s.size) w hx T
  have es : sgn (s.extract k s.size) = signL (s.data.toList.drop k) := by unfold sgn; rw [extract_rest]
  rw [es] at hS
  clear hx es
  have hM := fun w => made_any 3 k (k + signL (s.data.toList.drop k)) s w hs (by omega) hle
  have er : rd s k = .ok ⟨3, (s.data.toList.drop k).take (signL (s.data.toList.drop k)), k, k + signL (s.data.toList.drop k), 0⟩ := by
    unfold rd readL
    rw [drop_getD s k hk, if_neg h2, if_neg h3, if_neg h4, if_neg hz]
  have hE : Hid (rdOut s k = .returned (.tuple #[.agg #[.int .i64 3, .string (s.extract k (k + signL (s.data.toList.drop k))), .int .i64 k, .int .i64 (k + signL (s.data.toList.drop k) : Nat), .int .i64 0], .int .i64 0])) := by
    show _ = _
    unfold rdOut
    rw [er, extract_tok]
    rfl
  have hz' : ((signL (s.data.toList.drop k) : Int) == 0) = false := beq_int_false (by omega)
  generalize rdOut s k = R at *
  generalize kindN s[k].toNat = K at *
  generalize hX : s.extract k (k + signL (s.data.toList.drop k)) = X at *
  generalize signL (s.data.toList.drop k) = L at *
  have hM' : ∀ w, Calls Tryz.prog 129 #[.int .i64 3, .string s, .int .i64 k, .int .i64 (k + L)] w fun e w' => e = .returned (.agg #[.int .i64 3, .string X, .int .i64 k, .int .i64 (k + L), .int .i64 0]) ∧ Fr [] w w' := fun w => by simpa using hM w
  have hE' : Hid (R = .returned (.tuple #[.agg #[.int .i64 3, .string X, .int .i64 k, .int .i64 (k + L), .int .i64 0], .int .i64 0])) := by
    show _ = _
    simpa using hE.out
  clear h2 h3 h4 er hz hM hE hX
  have F0 : Fr [] w (w.alloc (.cells #[.int .i64 0, .string ⟨#[]⟩, .int .i64 0, .int .i64 0, .int .i64 0] 58)) := (Fr.refl _ _).alloc _
  have t0 := TB.new w (.int .i64 0) (.string ⟨#[]⟩) (.int .i64 0) (.int .i64 0) (.int .i64 0)
  go_enter Tryz.func77, Tryz.ntmps77
  go_wp2_with fail
  generalize hw1 : w.alloc _ = w1
  have F1 : Fr [] w w1 := by rw [← hw1]; exact F0
  have t1 : TB w1 w.heap.size (.int .i64 0) (.string ⟨#[]⟩) (.int .i64 0) (.int .i64 0) (.int .i64 0) := by rw [← hw1]; exact t0
  clear hw1 F0 t0
  have T1 := T.fr F1 (by simp)
  generalize hB : w.heap.size = B at t1 ⊢
  refine (hK w1 T1).mono ?_
  rintro e w1 ⟨rfl, rfl⟩
  go_wp2_with fail
  refine (hS _ T1).mono ?_
  rintro e w1' ⟨rfl, nn, rfl⟩
  go_wp2_with fail
  refine (hM' _).mono ?_
  rintro e w2 ⟨rfl, hF'⟩
  have hF : Fr [] w1 w2 := ((Fr.refl _ _).drewN nn).trans hF'
  have t2 := t1.fr hF (by simp)
  have F2 := F1.trans hF
  have a0 := t2.c0
  have a1 := t2.c1
  have a2 := t2.c2
  have a3 := t2.c3
  have a4 := t2.c4
  have fz := t2.fz
  have HB : Hid (w.heap.size = B) := hB
  clear hB t1 F1 hF T1 hK
  go_wp2
  have t4 := t2.set (.int .i64 3) (.string X) (.int .i64 k) (.int .i64 (k + L)) (.int .i64 0)
  have F5 := TB.fset F2 (B := B) (.inr (by have := HB.out; omega)) (.int .i64 3) (.string X) (.int .i64 k) (.int .i64 (k + L)) (.int .i64 0)
  refine bodyPost_ret (v := .tuple #[.agg #[.int .i64 3, .string X, .int .i64 k, .int .i64 (k + L), .int .i64 0], .int .i64 0]) ?_ rfl ⟨by rw [hE'.out], F5⟩
  have d0 := t4.c0
  have d1 := t4.c1
  have d2 := t4.c2
  have d3 := t4.c3
  have d4 := t4.c4
  clear a0 a1 a2 a3 a4 fz t4 F5 t2
  generalize ((((w2.setCell _ _).setCell _ _).setCell _ _).setCell _ _).setCell _ _ = w4 at *
  simp [results, Tryz.results77, go_sem, d0, d1, d2, d3, d4]

theorem signL_le (l : List UInt8) : signL l ≤ l.length := by
  unfold signL
  split
  · rename_i g hg
    have := List.find?_some hg
    rw [List.isPrefixOf_iff_prefix] at this
    exact this.length_le
  · omega

theorem read_any (s : ByteArray) (k : Nat) (w : World) (hs : s.size ≤ 2 ^ 40) (hk : k < s.size) (T : Tabs w) :
    Calls Tryz.prog 77 #[.string s, .int .i64 k] w fun e w' => e = rdOut s k ∧ Fr [] w w' := by
  by_cases h2 : kindN s[k].toNat = 2
  · exact read_name s k w hs hk T h2
  · by_cases h3 : kindN s[k].toNat = 3
    · exact read_digit s k w hs hk T h3
    · by_cases h4 : kindN s[k].toNat = 4
      · exact read_quote s k w hs hk T h4
      · by_cases hz : signL (s.data.toList.drop k) = 0
        · exact read_bad s k w hs hk T h2 h3 h4 hz
        · have := signL_le (s.data.toList.drop k)
          rw [List.length_drop, ← Lib.size_eq] at this
          exact read_sign s k w hs hk T h2 h3 h4 hz (by omega)
end Go.Proofs.YtnkjgggbiokfbaaGreatDoor
namespace Go.Proofs.YtnkjgggbiokfbaaGreatDoor
open Go.RowKit Go.Shelf
set_option maxRecDepth 100000

/-- How a round's body may be left. -/
def RoundEnd (l : Nat) (rec : LoopState → Option Code → Loop) (R : Ending → World → Prop) : Exit → Act → World → Prop
  | .normal, _, W => W.heap[l]? = some (.loop (rec .busy none)) ∧ R (.returned (.bool true)) (W.putObj l (.loop (rec .ready none)))
  | .ret, _, W => W.heap[l]? = some (.loop (rec .busy none)) ∧ R (.returned (.bool false)) (W.putObj l (.loop (rec .done (some .ret))))
  | _, _, _ => False

theorem range_outer {P : Program} {g : Operand} {ps : Array Tmp} {assign body : Code} {Q : Exit → Act → World → Prop} {a : Act} {w : World} {gf : Nat} {lb : Array Value}
    (hg : a.eval g = .func (.func gf) #[] lb) (eg : ∀ args w, (callFunc gf args).run P w = .ok (.enter gf args) w)
    (H : ∀ rec : LoopState → Option Code → Loop,
      (∀ (xs : Array Value) (W : World) (R : Ending → World → Prop), xs.size = ps.size → W.heap[w.heap.size + 1]? = some (.loop (rec .ready none)) →
        assign.wpIn (Fence.wide.inRound (w.heap.size + 1)) 0 P (Exit.then (fun a₁ w₁ => w₁.heap[w.heap.size + 1]? = some (.loop (rec .ready none)) ∧
          body.wpIn (Fence.wide.inRound (w.heap.size + 1)) 0 P (RoundEnd (w.heap.size + 1) rec R) a₁ (w₁.putObj (w.heap.size + 1) (.loop (rec .busy none)))) (fun _ _ _ => False))
          { tmps := (ps.zip xs).foldl (fun t (p, v) => t.setIfInBounds p v) a.tmps, defers := [] } W →
        YieldAt Fence.wide 0 P (w.heap.size + 1) xs W R) →
      CallsIn Fence.wide 0 P gf (#[.func (.yield (w.heap.size + 1)) #[] #[]] ++ lb) ((w.alloc (.deferred (some []))).alloc (.loop (rec .ready none)))
        (fun e W2 => (∃ v, e = .returned v) ∧
          ((W2.heap[w.heap.size + 1]? = some (.loop (rec .ready none)) ∧ Q .normal { a with defers := { target := .collected w.heap.size, args := #[] } :: a.defers } (W2.putObj (w.heap.size + 1) (.loop (rec .exhausted none)))) ∨
           (W2.heap[w.heap.size + 1]? = some (.loop (rec .done (some .ret))) ∧ Code.ret.wpIn Fence.wide 0 P Q { a with defers := { target := .collected w.heap.size, args := #[] } :: a.defers } (W2.putObj (w.heap.size + 1) (.loop (rec .exhausted (some .ret)))))))) :
    (Code.rangeFunc g ps assign body).wpIn Fence.wide 0 P Q a w := by
  refine wpIn_rangeFunc ?_
  intro fn hfn
  obtain ⟨rec, hrec⟩ : ∃ rec : LoopState → Option Code → Loop, rec = fun st pe => { state := st, pending := pe, fn, tmps := a.tmps, params := ps, assign, body, defers := w.heap.size } := ⟨_, rfl⟩
  have HH := H rec
  obtain ⟨W1, hW1⟩ : ∃ W1, (w.alloc (.deferred (some []))).alloc (.loop (rec .ready none)) = W1 := ⟨_, rfl⟩
  rw [hW1] at HH
  refine ⟨w.heap.size + 1, [{ target := .collected w.heap.size, args := #[] }], W1, { target := .fn (.func gf) lb, args := #[.func (.yield (w.heap.size + 1)) #[] #[]] }, W1, gf,
    #[.func (.yield (w.heap.size + 1)) #[] #[]] ++ lb, W1, ?_, ?_, ?_, ?_, (fun h => by cases h), ?_⟩
  · rw [← hW1, hrec]; exact run_enterLoop_outer _ _ _ _ _
  · simp only [resolve, hg]
    simp [go_sem]
  · intro f' _
    trivial
  · simp [invoke, go_sem, eg]
  · refine (HH ?_).mono ?_
    · intro xs W R hxs hl hw
      have hy := run_yield (P := P) (args := xs) hl (by rw [hrec]; exact hxs)
      rw [hrec] at hy
      refine ⟨fn, _, assign, body, hy, roundIn_of_wpIn hfn ?_⟩
      refine wpIn_mono hw ?_
      rintro e a1 w1 he
      cases e with
      | normal =>
        obtain ⟨h1, h2⟩ := he
        have hb := run_beginRound (P := P) h1 (by rw [hrec])
        refine ⟨_, hb, ?_⟩
        have e1 : ({ rec .ready none with state := .busy } : Loop) = rec .busy none := by rw [hrec]
        rw [e1]
        refine wpIn_mono h2 ?_
        rintro e a2 w2 he
        cases e with
        | normal =>
          obtain ⟨h3, h4⟩ := he
          have hn := run_endRound (P := P) none h3
          refine ⟨_, _, hn, ?_⟩
          have e2 : ({ rec .busy none with state := if (none : Option Code).isNone then .ready else .done, pending := none } : Loop) = rec .ready none := by rw [hrec]; rfl
          rw [e2]
          exact h4
        | ret =>
          obtain ⟨h3, h4⟩ := he
          have hn := run_endRound (P := P) (some .ret) h3
          refine ⟨_, _, hn, ?_⟩
          have e2 : ({ rec .busy none with state := if (some Code.ret).isNone then .ready else .done, pending := some .ret } : Loop) = rec .done (some .ret) := by rw [hrec]; rfl
          rw [e2]
          exact h4
        | exit id => exact he.elim
        | goto t => exact he.elim
        | panic c => exact he.elim
        | outgrown => exact he.elim
      | ret => exact he.elim
      | exit id => exact he.elim
      | goto t => exact he.elim
      | panic c => exact he.elim
      | outgrown => exact he.elim
    · rintro e W2 ⟨⟨v, rfl⟩, ⟨h1, h2⟩ | ⟨h1, h2⟩⟩
      · refine ⟨none, _, ?_, h2⟩
        have := run_endLoop (P := P) h1 (by rw [hrec]; simp)
        rw [hrec] at this ⊢
        exact this
      · refine ⟨some .ret, _, ?_, h2⟩
        have := run_endLoop (P := P) h1 (by rw [hrec]; simp)
        rw [hrec] at this ⊢
        exact this

theorem blk2 (w : World) (o o' : Obj) : ((w.alloc o).alloc o').heap[w.heap.size + 1]? = some o' := by
  have h := heap_alloc_new (w.alloc o) o'
  rw [show (w.alloc o).heap.size = w.heap.size + 1 from by simp] at h
  exact h
theorem own_ne {w : World} {B n : Nat} {e0 : TypeId} {size : Nat} {sv : Value} {xs : List Value} (h : w.ownsRow B e0 size sv n xs) {k : Nat} {c : Array Value} {e : TypeId} {z : Nat × Nat} (hk : w.heap[k]? = some (.cells c e z)) (he : e ≠ e0) : sv.ownBlock ≠ some k := by
  rcases h.2 with ⟨rfl, _⟩ | ⟨g, cap, cur, rfl, _, hgg, _⟩
  · simp [Value.ownBlock]
  · simp [Value.ownBlock]
    rintro rfl
    rw [hgg] at hk
    simp at hk
    exact he hk.2.1.symm
theorem own_fr {S : List Nat} {w w' : World} {B n : Nat} {e : TypeId} {size : Nat} {sv : Value} {xs : List Value} (h : w.ownsRow B e size sv n xs) (f : Fr S w w') (hS : ∀ k, sv.ownBlock = some k → k ∉ S) : w'.ownsRow B e size sv n xs := by
  refine ⟨h.1, ?_⟩
  rcases h.2 with e1 | ⟨g, cap, cur, e1, r1, hgg, r2⟩
  · exact .inl e1
  · exact .inr ⟨g, cap, cur, e1, r1, (f.block g (Array.getElem?_eq_some_iff.1 hgg).1 (hS g (by rw [e1]; rfl))).trans hgg, r2⟩
theorem Fr.ofGrown {w w' : World} {row : Option Nat} (h : w.grownBy w' row) : Fr row.toList w w' := Fr.grown (Fr.refl _ _) h (fun k hk => .inl (by simp [hk]))
theorem own_slice {w : World} {B n : Nat} {e : TypeId} {size : Nat} {v : Value} {xs : List Value} (h : w.ownsRow B e size v n xs) : ∃ a c, v = .slice a n c ∧ (a = none → n = 0 ∧ c = 0) := by
  rcases h.2 with ⟨e1, e2⟩ | ⟨g, cap, cur, e1, _⟩
  · exact ⟨none, 0, by rw [e1, e2], fun _ => ⟨e2, rfl⟩⟩
  · exact ⟨_, cap, e1, fun h => by cases h⟩
theorem own_notloop {w : World} {B n : Nat} {e0 : TypeId} {size : Nat} {sv : Value} {xs : List Value} (h : w.ownsRow B e0 size sv n xs) {k : Nat} {o : Obj} (hk : w.heap[k]? = some o) (ho : ∀ c t z, o ≠ .cells c t z) : sv.ownBlock ≠ some k := by
  rcases h.2 with ⟨rfl, _⟩ | ⟨g, cap, cur, rfl, _, hgg, _⟩
  · simp [Value.ownBlock]
  · simp [Value.ownBlock]
    rintro rfl
    rw [hgg] at hk
    injection hk with hk
    exact ho _ _ _ hk.symm
theorem at_cells {w : World} {k : Nat} {c : Array Value} {t : TypeId} {z : Nat × Nat} (h : w.heap[k]? = some (.cells c t z)) (i : Nat) {u : Value} (hu : c[i]? = some u) : w.cell? ⟨k, i, none⟩ = some u := by simp [World.cell?, h, hu]
theorem Fr.putObj {W : World} {l : Nat} (o : Obj) : Fr [l] W (W.putObj l o) := Fr.ofGrown (grownBy_putObj' W l o)
theorem store_func (P : Program) (w : World) (a : Addr) (m : Mode) (f : Fn) (x y : Array Value) : (store a (.func f x y) m).run P w = stored P w a (.func f x y) m := run_store P w a _ m rfl

/-! The tokens of a text from a place on. -/
theorem readL_to {p : Nat} {l : List UInt8} {t : Tok} (hl : l ≠ []) (h : readL p l = .ok t) : p < t.to ∧ t.to ≤ p + l.length := by
  obtain ⟨c, r, rfl⟩ : ∃ c r, l = c :: r := by
    cases l with
    | nil => exact absurd rfl hl
    | cons c r => exact ⟨c, r, rfl⟩
  have hr := runL_le (c :: r)
  have hs := signL_le (c :: r)
  unfold readL at h
  simp only [List.getD_cons_zero] at h
  have run1 : isWd c.toNat = true → 1 ≤ runL (c :: r) := fun hw => by simp [runL, hw]
  split at h
  · rename_i h2
    have := run1 ((kind_wd _).1 (.inl h2))
    injection h with h
    subst h
    simp
    simp at hr
    omega
  · split at h
    · rename_i h3
      have := run1 ((kind_wd _).1 (.inr h3))
      split at h
      · cases h
      · injection h with h
        subst h
        simp
        simp at hr
        omega
    · split at h
      · split at h
        · cases h
        · injection h with h
          subst h
          simp
          omega
      · split at h
        · cases h
        · rename_i hz
          injection h with h
          subst h
          simp
          simp at hs
          omega

theorem scanL_fuel : ∀ (f f' p : Nat) (l : List UInt8), l.length < f → l.length < f' → scanL f p l = scanL f' p l := by
  intro f
  induction f with
  | zero => intro f' p l h; omega
  | succ f ih =>
    intro f' p l h h'
    cases f' with
    | zero => omega
    | succ f' =>
      simp only [scanL]
      split
      · rfl
      · rename_i hsk
        have hle := skipL_le false l
        cases hr : readL (p + skipL false l) (l.drop (skipL false l)) with
        | error e => rfl
        | ok t =>
          have hne : l.drop (skipL false l) ≠ [] := fun e => by
            have := congrArg List.length e
            simp at this
            omega
          have ht := readL_to hne hr
          simp only
          rw [ih f' t.to (l.drop (t.to - p)) (by simp; omega) (by simp; omega)]

def sc (s : ByteArray) (k : Nat) : List Tok × Option (Nat × Nat) := scanL (s.size + 1) k (s.data.toList.drop k)

theorem sc_end {s : ByteArray} {k : Nat} (hk : k ≤ s.size) (h : s.size ≤ skE s k) : sc s k = ([], none) := by
  have hl : (s.data.toList.drop k).length = s.size - k := by rw [List.length_drop, ← Lib.size_eq]
  unfold sc
  simp only [scanL]
  rw [if_pos]
  unfold skE at h
  have := skipL_le false (s.data.toList.drop k)
  omega
theorem sc_err {s : ByteArray} {k e : Nat} (h : skE s k < s.size) (hr : rd s (skE s k) = .error e) : sc s k = ([], some (skE s k, e)) := by
  have hl : (s.data.toList.drop k).length = s.size - k := by rw [List.length_drop, ← Lib.size_eq]
  unfold rd at hr
  unfold sc
  simp only [scanL]
  have h' := h
  unfold skE at h'
  rw [if_neg (by omega), List.drop_drop]
  rw [show k + skipL false (List.drop k s.data.toList) = skE s k from rfl, hr]
theorem sc_ok {s : ByteArray} {k : Nat} {t : Tok} (h : skE s k < s.size) (hr : rd s (skE s k) = .ok t) : sc s k = (t :: (sc s t.to).1, (sc s t.to).2) ∧ skE s k < t.to ∧ t.to ≤ s.size := by
  have hl : (s.data.toList.drop k).length = s.size - k := by rw [List.length_drop, ← Lib.size_eq]
  have hl2 : (s.data.toList.drop (skE s k)).length = s.size - skE s k := by rw [List.length_drop, ← Lib.size_eq]
  have h' := h
  unfold skE at h'
  have hne : s.data.toList.drop (skE s k) ≠ [] := fun e => by rw [e] at hl2; simp at hl2; omega
  unfold rd at hr
  have ht := readL_to hne hr
  rw [hl2] at ht
  refine ⟨?_, by omega, by omega⟩
  have hr' : readL (k + skipL false (List.drop k s.data.toList)) (List.drop (skipL false (List.drop k s.data.toList)) (List.drop k s.data.toList)) = .ok t := by
    rw [List.drop_drop]; exact hr
  unfold sc
  conv => lhs; simp only [scanL]
  rw [if_neg (by omega), hr']
  simp only
  have hkt : k ≤ t.to := by unfold skE at ht; omega
  rw [List.drop_drop, show k + (t.to - k) = t.to from by omega]
  have hl3 : (s.data.toList.drop t.to).length = s.size - t.to := by rw [List.length_drop, ← Lib.size_eq]
  rw [scanL_fuel s.size (s.size + 1) t.to (s.data.toList.drop t.to) (by omega) (by omega)]
end Go.Proofs.YtnkjgggbiokfbaaGreatDoor
namespace Go.Proofs.YtnkjgggbiokfbaaGreatDoor
open Go.RowKit Go.Shelf
set_option maxRecDepth 100000
attribute [local go_sem] Oper.semAt_some store_func

/-- How telling tokens ends: all are told; at a fault; the caller had enough. -/
abbrev Res := Sum (List Tok) (Sum (List Tok × Nat × Nat) (List Tok))
def walkT (go : List Tok → Bool) : List Tok → List Tok → Option (Nat × Nat) → Res
  | d, [], none => .inl d
  | d, [], some x => .inr (.inl (d, x.1, x.2))
  | d, t :: ts, er => if go (d ++ [t]) then walkT go (d ++ [t]) ts er else .inr (.inr (d ++ [t]))

/-- What a caller may write. -/
def Mine (bx M : Nat) (W W' : World) : Prop := ∃ S, Fr S W W' ∧ ∀ j, j ∈ S → 7 ≤ j ∧ j ≠ bx ∧ j < M

theorem tokens_any (s : ByteArray) (w : World) :
    Calls Tryz.prog 41 #[.string s] w fun e w' => e = .returned (.func (.func 75) #[] #[.pointer (some ⟨w.heap.size, 0, none⟩)]) ∧ w' = w.alloc (.cells #[.string s] 9) := by
  go_enter Tryz.func41, Tryz.ntmps41
  go_wp2
  go_ret
  exact ⟨rfl, rfl⟩

theorem rdE_ok (t : Tok) : rdE (.ok t) = 0 := rfl

theorem rd_ne0 {s : ByteArray} {k e : Nat} (h : rd s k = .error e) : e ≠ 0 := by
  unfold rd readL at h
  repeat (first | (cases h; omega) | cases h | split at h)
  all_goals simp_all

set_option maxRecDepth 100000 in
set_option maxHeartbeats 2000000 in
theorem tokens1 (go : List Tok → Bool) (G : List Tok → World → Prop) (Q : Res → World → Prop) (s : ByteArray) (hs : s.size ≤ 200000) (bx l : Nat)
    (hE : ∀ d W, G d W → Q (.inl d) W)
    (hY1 : ∀ d t W0 W, d.length + 1 ≤ s.size → G d W0 → Fr [] W0 W → Tabs W → YieldAt Fence.wide 0 Tryz.prog l #[.agg (tokA t), .int .i64 0] W (fun e W' => e = .returned (.bool (go (d ++ [t]))) ∧ Mine bx W0.heap.size W W' ∧ (if go (d ++ [t]) then G (d ++ [t]) W' else Q (.inr (.inr (d ++ [t]))) W')))
    (hY2 : ∀ d p er W0 W, G d W0 → Fr [] W0 W → Tabs W → er ≠ 0 → YieldAt Fence.wide 0 Tryz.prog l #[.agg #[.int .i64 0, .string ⟨#[]⟩, .int .i64 (p : Nat), .int .i64 0, .int .i64 0], .int .i64 (er : Nat)] W (fun e W' => (∃ b, e = .returned (.bool b)) ∧ Q (.inr (.inl (d, p, er))) W'))
    (W : World) (h0 : G [] W) (T0 : Tabs W) (b0 : W.heap[bx]? = some (.cells #[.string s] 9 (0, 0))) :
    CallsIn Fence.wide 0 Tryz.prog 75 #[.func (.yield l) #[] #[], .pointer (some ⟨bx, 0, none⟩)] W fun e W' => (∃ v, e = .returned v) ∧ Q (walkT go [] (sc s 0).1 (sc s 0).2) W' := by
  have hs40 : s.size ≤ 2 ^ 40 := by omega
  have hsM : s.size ≤ maxLen := by unfold maxLen; omega
  have hs' : (s.size : Int) ≤ 200000 := by omega
  have HS : Hid (s.size ≤ 200000) := hs
  clear hs
  refine callsIn_of_wp Tryz.func75 rfl trivial ?_ rfl
  simp only [Tryz.ntmps75, List.size_toArray, List.length_cons, List.length_nil, Nat.reduceAdd, Nat.reduceSub, Array.replicate_succ, Array.replicate_zero, List.push_toArray, List.append_toArray, List.nil_append, List.cons_append]
  have cb := at_cells b0 0 rfl
  gi_wp2
  refine ⟨trivial, rfl, (callsIn_wide.2 (skip_any s 0 W hsM (Nat.zero_le _) T0)).mono ?_⟩
  rintro e W ⟨rfl, rfl⟩
  have hk0 := skE_le s 0 (Nat.zero_le _)
  gi_wp2
  gi_loopw [3] (fun at_ wr => ∃ k d, k ≤ s.size ∧ Hid (d.length ≤ k) ∧ at_ = .int .i64 ((skE s k : Nat) : Int) ∧ G d wr ∧ Tabs wr ∧ wr.heap[bx]? = some (.cells #[.string s] 9 (0, 0)) ∧ Hid (walkT go d (sc s k).1 (sc s k).2 = walkT go [] (sc s 0).1 (sc s 0).2)) (fun at_ _ => s.size - (intOf at_).toNat)
  case atStart => exact ⟨0, [], Nat.zero_le _, Nat.zero_le _, rfl, h0, T0, b0, rfl⟩
  case round =>
    obtain ⟨k, d, hk, hdk, rfl, hg, hT, hb, hr⟩ := hrel
    have hkl := skE_le s k hk
    have cb2 := at_cells hb 0 rfl
    by_cases hlt : skE s k < s.size
    · have hread := fun w T => read_any s (skE s k) w hs40 hlt T
      unfold rdOut at hread
      cases hrd : rd s (skE s k) with
      | error er =>
        have hsc := sc_err hlt hrd
        rw [hrd] at hread
        have hne := rd_ne0 hrd
        have hres : Hid (walkT go [] (sc s 0).1 (sc s 0).2 = .inr (.inl (d, skE s k, er))) := by
          show _ = _
          rw [← hr.out, hsc]
          rfl
        simp only [rdA, rdE] at hread
        have hne' : ((er : Int) != 0) = true := by simp; omega
        generalize skE s k = K at *
        clear hsc hrd hr hne
        gi_wp2
        refine ⟨trivial, rfl, (callsIn_wide.2 (hread wr hT)).mono ?_⟩
        rintro e w2 ⟨rfl, hF⟩
        have hF3 : Fr [] wr (w2.alloc (.cells #[.int .i64 0, .string ⟨#[]⟩, .int .i64 K, .int .i64 0, .int .i64 0] 58)) := hF.alloc _
        obtain ⟨fn, tmps, assign, body, hy, hRnd⟩ := hY2 d K er wr _ hg hF3 (hT.fr hF3 (by simp)) (by intro h; rw [h] at hne'; simp at hne')
        gi_wp2
        refine ⟨rfl, hRnd.mono ?_⟩
        rintro e W' ⟨⟨b, rfl⟩, hQ⟩
        clear hRnd hy
        cases b
        · gi_wp2
          refine bodyPost_ret (results_none rfl _ _ _) rfl ?_
          rw [hres.out]
          exact ⟨⟨_, rfl⟩, hQ⟩
        · gi_wp2
          refine bodyPost_ret (results_none rfl _ _ _) rfl ?_
          rw [hres.out]
          exact ⟨⟨_, rfl⟩, hQ⟩
      | ok t =>
        obtain ⟨hsc, hto1, hto2⟩ := sc_ok hlt hrd
        rw [hrd] at hread
        have hres : Hid (walkT go [] (sc s 0).1 (sc s 0).2 = if go (d ++ [t]) then walkT go (d ++ [t]) (sc s t.to).1 (sc s t.to).2 else .inr (.inr (d ++ [t]))) := by
          show _ = _
          rw [← hr.out, hsc]
          rfl
        have hdl : Hid (d.length + 1 ≤ t.to) := by have := hdk.out; show _ ≤ _; omega
        have hY := hY1 d t wr
        simp only [rdA, rdE, tokA] at hread hY
        have hskip := fun w T => skip_any s t.to w hsM hto2 T
        have hkt := skE_le s t.to hto2
        generalize skE s k = K at *
        clear hsc hrd hr
        generalize (t.kind : Int) = x0 at hread hY
        generalize (⟨t.text.toArray⟩ : ByteArray) = X at hread hY
        generalize (t.frm : Int) = x2 at hread hY
        generalize (t.n : Int) = x4 at hread hY
        gi_wp2
        refine ⟨trivial, rfl, (callsIn_wide.2 (hread wr hT)).mono ?_⟩
        rintro e w2 ⟨rfl, hF⟩
        have hF3 : Fr [] wr (w2.alloc (.cells #[.int .i64 x0, .string X, .int .i64 x2, .int .i64 t.to, .int .i64 x4] 58)) := hF.alloc _
        have u3 := TB.new w2 (.int .i64 x0) (.string X) (.int .i64 x2) (.int .i64 t.to) (.int .i64 x4)
        obtain ⟨fn, tmps, assign, body, hy, hRnd⟩ := hY _ (Nat.le_trans hdl.out hto2) hg hF3 (hT.fr hF3 (by simp))
        have hT3 := hT.fr hF3 (by simp)
        have hb3 := (hF3.block _ (Array.getElem?_eq_some_iff.1 hb).1 (by simp)).trans hb
        have hCz : Hid (wr.heap.size ≤ w2.heap.size) := hF.size
        gi_wp2
        refine ⟨rfl, hRnd.mono ?_⟩
        rintro e W' ⟨rfl, hM, hGQ⟩
        clear hRnd hy hY hread
        generalize w2.alloc (.cells #[.int .i64 x0, .string X, .int .i64 x2, .int .i64 t.to, .int .i64 x4] 58) = w3 at *
        generalize w2.heap.size = C at *
        have hlow : Hid (bx < wr.heap.size) := (Array.getElem?_eq_some_iff.1 hb).1
        obtain ⟨S, hFS, hS⟩ := hM
        have u4 : TB W' C _ _ _ _ _ := u3.fr hFS (fun hm => by have := (hS C hm).2.2; have := hCz.out; omega)
        have b4 := (hFS.block _ (Array.getElem?_eq_some_iff.1 hb3).1 (fun hm => (hS bx hm).2.1 rfl)).trans hb3
        have T4 := hT3.fr hFS (fun j hj => (hS j hj).1)
        have cx := at_cells b4 0 rfl
        have ct := u4.c3
        clear hS hFS u3 hb3 hT3 hF3 hF hT hb cb2 cb
        cases hgo : go (d ++ [t])
        · rw [hgo] at hres hGQ
          simp only [Bool.false_eq_true, if_false] at hres hGQ
          gi_wp2
          refine bodyPost_ret (results_none rfl _ _ _) rfl ?_
          rw [hres.out]
          exact ⟨⟨_, rfl⟩, hGQ⟩
        · rw [hgo] at hres hGQ
          simp only [if_true] at hres hGQ
          gi_wp2
          refine ⟨trivial, rfl, (callsIn_wide.2 (hskip W' T4)).mono ?_⟩
          rintro e W' ⟨rfl, rfl⟩
          gi_wp2
          go_roundw
          case rel => exact ⟨t.to, d ++ [t], hto2, (by have := hdl.out; show _ ≤ _; simp; exact this), rfl, hGQ, T4, b4, hres.out.symm⟩
          case measure => simp [intOf]; omega
    · have hsc := sc_end hk (by omega)
      have hres : Hid (walkT go [] (sc s 0).1 (sc s 0).2 = .inl d) := by
        show _ = _
        rw [← hr.out, hsc]
        rfl
      gi_wp2
      go_end0
      rw [hres.out]
      exact ⟨⟨_, rfl⟩, hE d _ hg⟩
end Go.Proofs.YtnkjgggbiokfbaaGreatDoor
namespace Go.Proofs.YtnkjgggbiokfbaaGreatDoor
open Go.RowKit Go.Shelf
set_option maxRecDepth 100000
attribute [local go_sem] Oper.semAt_some store_func

theorem under42 : Tryz.prog.underlying 44 = some (.slice 58) := by kernel_rfl
theorem info56 : (Tryz.prog.info? 58).map (fun i => (i.zero, i.size, i.bytes)) = some (some (.agg #[.int .i64 0, .string ⟨#[]⟩, .int .i64 0, .int .i64 0, .int .i64 0]), 5, 48) := by kernel_rfl

/-- Tokens as cells. -/
def flatT : List Tok → List Value
  | [] => []
  | t :: r => (tokA t).toList ++ flatT r
theorem flatT_append (a b : List Tok) : flatT (a ++ b) = flatT a ++ flatT b := by
  induction a with
  | nil => rfl
  | cons t r ih => simp [flatT, ih]
theorem flatT_one (t : Tok) : flatT [t] = (tokA t).toList := by simp [flatT]
theorem tok_new (w : World) (v0 v1 v2 v3 v4 : Value) : ∀ j u, [v0, v1, v2, v3, v4][j]? = some u → (w.alloc (.cells #[v0, v1, v2, v3, v4] 58)).cell? ((⟨w.heap.size, 0, none⟩ : Addr).add j) = some u := by
  intro j u hu
  have hadd : (⟨w.heap.size, 0, none⟩ : Addr).add j = ⟨w.heap.size, j, none⟩ := by unfold Addr.add; split <;> simp_all
  rw [hadd]
  exact at_cells (heap_alloc_new w _) j (by simpa using hu)

/-- What Scan keeps from round to round. -/
structure SG (w0 : World) (N l D : Nat) (rec : LoopState → Option Code → Loop) (d : List Tok) (W : World) : Prop where
  old : Fr [] w0 W
  r0 : W.heap[N]? = some (.cells #[.slice none 0 0] 44 (0, 0))
  r1 : W.heap[N + 1]? = some (.cells #[.int .i64 0] 3 (0, 0))
  r2 : W.heap[N + 1 + 1]? = some (.cells #[.int .i64 0] 24 (0, 0))
  box : ∃ sv, W.heap[N + 1 + 1 + 1]? = some (.cells #[sv] 44 (0, 0)) ∧ W.ownsRow (N + 7) 58 5 sv d.length (flatT d)
  rd : W.heap[l]? = some (.loop (rec .ready none))
  dfr : W.heap[D]? = some (.deferred (some []))
  len : d.length ≤ 200000

/-- How its loop ends. -/
def SQ (w0 : World) (N l D : Nat) (rec : LoopState → Option Code → Loop) : Res → World → Prop
  | .inl d, W => SG w0 N l D rec d W
  | .inr (.inl (_, p, e)), W => Fr [] w0 W ∧ W.heap[N]? = some (.cells #[.slice none 0 0] 44 (0, 0)) ∧ W.heap[N + 1]? = some (.cells #[.int .i64 (p : Nat)] 3 (0, 0)) ∧ W.heap[N + 1 + 1]? = some (.cells #[.int .i64 (e : Nat)] 24 (0, 0)) ∧ W.heap[l]? = some (.loop (rec .done (some .ret))) ∧ W.heap[D]? = some (.deferred (some []))
  | .inr (.inr _), _ => False

theorem SG.fr {w0 : World} {N l D : Nat} {rec : LoopState → Option Code → Loop} {d : List Tok} {W W' : World} (h : SG w0 N l D rec d W) (f : Fr [] W W') : SG w0 N l D rec d W' := by
  have kp : ∀ {k o}, W.heap[k]? = some o → W'.heap[k]? = some o := fun hk => (f.block _ (Array.getElem?_eq_some_iff.1 hk).1 (by simp)).trans hk
  obtain ⟨sv, hb, ho⟩ := h.box
  exact ⟨h.old.trans f, kp h.r0, kp h.r1, kp h.r2, ⟨sv, kp hb, own_fr ho f (fun _ _ => by simp)⟩, kp h.rd, kp h.dfr, h.len⟩

/-- What Scan hands back. -/
def scOut (s : ByteArray) (w w' : World) (e : Ending) : Prop :=
  match sc s 0 with
  | (ts, none) => ∃ v, e = .returned (.tuple #[v, .int .i64 0, .int .i64 0]) ∧ w'.ownsRow w.heap.size 58 5 v (ts.length + 1) (flatT (ts ++ [⟨0, [], s.size, s.size, 0⟩]))
  | (_, some (p, c)) => e = .returned (.tuple #[.slice none 0 0, .int .i64 (p : Nat), .int .i64 (c : Nat)])

theorem scOut_some {s : ByteArray} {w w' : World} {ts : List Tok} {p c : Nat} (h : sc s 0 = (ts, some (p, c))) : scOut s w w' (.returned (.tuple #[.slice none 0 0, .int .i64 (p : Nat), .int .i64 (c : Nat)])) := by
  unfold scOut; rw [h]
theorem scOut_none {s : ByteArray} {w w' : World} {ts : List Tok} {v : Value} (h : sc s 0 = (ts, none)) (ho : w'.ownsRow w.heap.size 58 5 v (ts.length + 1) (flatT (ts ++ [⟨0, [], s.size, s.size, 0⟩]))) : scOut s w w' (.returned (.tuple #[v, .int .i64 0, .int .i64 0])) := by
  unfold scOut; rw [h]; exact ⟨v, rfl, ho⟩

theorem blkN (w : World) (a b c d : Obj) : (((((w.alloc a).alloc b).alloc c).alloc d)).heap.size = w.heap.size + 4 := by simp

theorem walkT_all (d ts : List Tok) (er : Option (Nat × Nat)) : walkT (fun _ => true) d ts er = match er with | none => .inl (d ++ ts) | some x => .inr (.inl ((d ++ ts), x.1, x.2)) := by
  induction ts generalizing d with
  | nil => cases er <;> simp [walkT]
  | cons t ts ih =>
    simp only [walkT, if_true]
    rw [ih]
    cases er <;> simp

theorem own_low {w : World} {B B' n : Nat} {e : TypeId} {size : Nat} {v : Value} {xs : List Value} (h : w.ownsRow B e size v n xs) (hB : B' ≤ B) : w.ownsRow B' e size v n xs :=
  ⟨h.1, h.2.imp id (fun ⟨g, cap, cur, e1, e2, r⟩ => ⟨g, cap, cur, e1, Nat.le_trans hB e2, r⟩)⟩

theorem set_same {W : World} {k : Nat} {u v : Value} {t : TypeId} {z : Nat × Nat} (h : W.heap[k]? = some (.cells #[u] t z)) : (W.setCell ⟨k, 0, none⟩ v).heap[k]? = some (.cells #[v] t z) := by simp [World.setCell, Array.getElem?_modify, h]
theorem set_other {W : World} {k j : Nat} {v : Value} {o : Obj} (hk : k ≠ j) (h : W.heap[k]? = some o) : (W.setCell ⟨j, 0, none⟩ v).heap[k]? = some o := (Below.heap_setCell _ _ _ _ (by simpa using hk)).trans h

/-- Three cells are written. -/
theorem set3 {w X1 : World} {N l D : Nat} {p er : Int} {r : Loop} {r' : Loop} (hN : N = w.heap.size) (q0 : X1.heap[N]? = some (.cells #[.slice none 0 0] 44 (0, 0))) (q1 : X1.heap[N + 1]? = some (.cells #[.int .i64 0] 3 (0, 0))) (q2 : X1.heap[N + 1 + 1]? = some (.cells #[.int .i64 0] 24 (0, 0)))
    (hl : X1.heap[l]? = some (.loop r)) (hd : X1.heap[D]? = some (.deferred (some []))) (l1 : N + 1 + 1 < l) (l2 : N + 1 + 1 < D) (l3 : D ≠ l) (hO : Fr [] w X1) (X2 : World) (hX : X2 = (((X1.setCell ⟨N, 0, none⟩ (.slice none 0 0)).setCell ⟨N + 1, 0, none⟩ (.int .i64 p)).setCell ⟨N + 1 + 1, 0, none⟩ (.int .i64 er)).drew) :
    X2.heap[l]? = some (.loop r) ∧ Fr [] w (X2.putObj l (.loop r')) ∧ (X2.putObj l (.loop r')).heap[N]? = some (.cells #[.slice none 0 0] 44 (0, 0)) ∧ (X2.putObj l (.loop r')).heap[N + 1]? = some (.cells #[.int .i64 p] 3 (0, 0)) ∧ (X2.putObj l (.loop r')).heap[N + 1 + 1]? = some (.cells #[.int .i64 er] 24 (0, 0)) ∧ (X2.putObj l (.loop r')).heap[l]? = some (.loop r') ∧ (X2.putObj l (.loop r')).heap[D]? = some (.deferred (some [])) := by
  have A0 : X2.heap[N]? = some (.cells #[.slice none 0 0] 44 (0, 0)) := by
    rw [hX]; exact set_other (by omega) (set_other (by omega) (set_same q0))
  have A1 : X2.heap[N + 1]? = some (.cells #[.int .i64 p] 3 (0, 0)) := by
    rw [hX]; exact set_other (by omega) (set_same (set_other (by omega) q1))
  have A2 : X2.heap[N + 1 + 1]? = some (.cells #[.int .i64 er] 24 (0, 0)) := by
    rw [hX]; exact set_same (set_other (by omega) (set_other (by omega) q2))
  have f5 : Fr [N, N + 1, N + 1 + 1] X1 X2 := by
    rw [hX]; exact ((((Fr.refl _ _).setCell (.inl (by simp)) _).setCell (.inl (by simp)) _).setCell (.inl (by simp)) _).drew
  have D2 := (f5.block _ (Array.getElem?_eq_some_iff.1 hd).1 (by simp; omega)).trans hd
  have L2 := (f5.block _ (Array.getElem?_eq_some_iff.1 hl).1 (by simp; omega)).trans hl
  have O2 : Fr [] w X2 := ((hO.sub (T := [N, N + 1, N + 1 + 1]) (by simp)).trans f5).sub (fun k hk => .inr (by simp at hk; omega))
  have f6 := Fr.putObj (W := X2) (l := l) (.loop r')
  have k6 : ∀ {k : Nat} {o : Obj}, k ≠ l → X2.heap[k]? = some o → (X2.putObj l (.loop r')).heap[k]? = some o := fun hk h1 => (World.putObj_heap_other hk).trans h1
  exact ⟨L2, ((O2.sub (T := [l]) (by simp)).trans f6).sub (fun k hk => .inr (by simp at hk; omega)), k6 (by omega) A0, k6 (by omega) A1, k6 (by omega) A2, World.putObj_heap_same (Array.getElem?_eq_some_iff.1 L2).1, k6 l3 D2⟩

set_option maxRecDepth 100000 in
set_option maxHeartbeats 4000000 in
theorem scan_any (s : ByteArray) (w : World) (hs : s.size ≤ 200000) (T : Tabs w) :
    Calls Tryz.prog 22 #[.string s] w fun e w' => scOut s w w' e ∧ Fr [] w w' := by
  obtain ⟨i5, hi, hz, hz1, hby⟩ := info_parts info56
  have HS : Hid (s.size ≤ 200000) := hs
  refine callsIn_wide.1 (callsIn_of_wp_marks (n := 0) Tryz.func22 rfl trivial ?_ rfl)
  simp only [Tryz.ntmps22, List.size_toArray, List.length_cons, List.length_nil, Nat.reduceAdd, Nat.reduceSub, Array.replicate_succ, Array.replicate_zero, List.push_toArray, List.append_toArray, List.nil_append, List.cons_append]
  gi_wp2
  have F0 : Fr [] w ((((w.alloc (.cells #[.slice none 0 0] 44)).alloc (.cells #[.int .i64 0] 3)).alloc (.cells #[.int .i64 0] 24)).alloc (.cells #[.slice none 0 0] 44)) := ((((Fr.refl _ _).alloc _).alloc _).alloc _).alloc _
  have R0 : ((((w.alloc (.cells #[.slice none 0 0] 44)).alloc (.cells #[.int .i64 0] 3)).alloc (.cells #[.int .i64 0] 24)).alloc (.cells #[.slice none 0 0] 44)).heap[w.heap.size]? = some (.cells #[.slice none 0 0] 44 (0, 0)) := by
    rw [Below.heap_alloc _ _ _ (by simp; omega), Below.heap_alloc _ _ _ (by simp; omega), Below.heap_alloc _ _ _ (by simp)]
    exact heap_alloc_new w _
  have R1 : ((((w.alloc (.cells #[.slice none 0 0] 44)).alloc (.cells #[.int .i64 0] 3)).alloc (.cells #[.int .i64 0] 24)).alloc (.cells #[.slice none 0 0] 44)).heap[w.heap.size + 1]? = some (.cells #[.int .i64 0] 3 (0, 0)) := by
    rw [Below.heap_alloc _ _ _ (by simp), Below.heap_alloc _ _ _ (by simp)]
    exact blk2 w _ _
  have R2 : ((((w.alloc (.cells #[.slice none 0 0] 44)).alloc (.cells #[.int .i64 0] 3)).alloc (.cells #[.int .i64 0] 24)).alloc (.cells #[.slice none 0 0] 44)).heap[w.heap.size + 1 + 1]? = some (.cells #[.int .i64 0] 24 (0, 0)) := by
    rw [Below.heap_alloc _ _ _ (by simp)]
    have := blk2 (w.alloc (.cells #[.slice none 0 0] 44)) (.cells #[.int .i64 0] 3) (.cells #[.int .i64 0] 24)
    simpa using this
  have R3 : ((((w.alloc (.cells #[.slice none 0 0] 44)).alloc (.cells #[.int .i64 0] 3)).alloc (.cells #[.int .i64 0] 24)).alloc (.cells #[.slice none 0 0] 44)).heap[w.heap.size + 1 + 1 + 1]? = some (.cells #[.slice none 0 0] 44 (0, 0)) := by
    have := blk2 ((w.alloc (.cells #[.slice none 0 0] 44)).alloc (.cells #[.int .i64 0] 3)) (.cells #[.int .i64 0] 24) (.cells #[.slice none 0 0] 44)
    simpa using this
  have hs0 := blkN w (.cells #[.slice none 0 0] 44) (.cells #[.int .i64 0] 3) (.cells #[.int .i64 0] 24) (.cells #[.slice none 0 0] 44)
  generalize (((w.alloc (.cells #[.slice none 0 0] 44)).alloc (.cells #[.int .i64 0] 3)).alloc (.cells #[.int .i64 0] 24)).alloc (.cells #[.slice none 0 0] 44) = w0 at *
  refine ⟨trivial, rfl, (callsIn_wide.2 (tokens_any s w0)).mono ?_⟩
  rintro e w1 ⟨rfl, rfl⟩
  have F1 : Fr [] w0 (w0.alloc (.cells #[.string s] 9)) := (Fr.refl _ _).alloc _
  have B1 : (w0.alloc (.cells #[.string s] 9)).heap[w0.heap.size]? = some (.cells #[.string s] 9 (0, 0)) := heap_alloc_new w0 _
  have hs1 : (w0.alloc (.cells #[.string s] 9)).heap.size = w.heap.size + 5 := by simp [hs0]
  rw [hs0] at B1 ⊢
  have G1 := F0.trans F1
  have kp : ∀ {k o}, w0.heap[k]? = some o → (w0.alloc (.cells #[.string s] 9)).heap[k]? = some o := fun hk => (F1.block _ (Array.getElem?_eq_some_iff.1 hk).1 (by simp)).trans hk
  have R0 := kp R0
  have R1 := kp R1
  have R2 := kp R2
  have R3 := kp R3
  clear kp
  generalize w0.alloc (.cells #[.string s] 9) = w1 at *
  have HS1 : Hid (w1.heap.size = w.heap.size + 5) := hs1
  clear hs1 hs0 F0 F1
  gi_wp2
  refine range_outer (gf := 75) (lb := #[.pointer (some ⟨w.heap.size + 4, 0, none⟩)]) rfl (enters_of Tryz.func75 (by kernel_rfl) rfl) ?_
  intro rec hYr
  show CallsIn Fence.wide 0 Tryz.prog 75 #[.func (.yield (w1.heap.size + 1)) #[] #[], .pointer (some ⟨w.heap.size + 4, 0, none⟩)] _ _
  have f2 : Fr [] w1 ((w1.alloc (.deferred (some []))).alloc (.loop (rec .ready none))) := ((Fr.refl _ _).alloc _).alloc _
  have hL2 := blk2 w1 (.deferred (some [])) (.loop (rec .ready none))
  have hD2 : ((w1.alloc (.deferred (some []))).alloc (.loop (rec .ready none))).heap[w1.heap.size]? = some (.deferred (some [])) := (Below.heap_alloc _ _ _ (by simp)).trans (heap_alloc_new w1 _)
  have hs2 : ((w1.alloc (.deferred (some []))).alloc (.loop (rec .ready none))).heap.size = w1.heap.size + 2 := by simp
  generalize (w1.alloc (.deferred (some []))).alloc (.loop (rec .ready none)) = w2 at *
  have hD : w1.heap.size = w.heap.size + 5 := HS1.out
  rw [hD] at hL2 hD2 hs2 hYr ⊢
  have G2 := G1.trans f2
  have kp : ∀ {k o}, w1.heap[k]? = some o → w2.heap[k]? = some o := fun hk => (f2.block _ (Array.getElem?_eq_some_iff.1 hk).1 (by simp)).trans hk
  have T2 := T.fr G2 (by simp)
  have hN3 : 7 ≤ w.heap.size := T.len
  refine (tokens1 (fun _ => true) (SG w w.heap.size (w.heap.size + 5 + 1) (w.heap.size + 5) rec) (SQ w w.heap.size (w.heap.size + 5 + 1) (w.heap.size + 5) rec) s hs (w.heap.size + 4) (w.heap.size + 5 + 1)
    (fun d W h => h) ?_ ?_ w2 ⟨G2, kp R0, kp R1, kp R2, ⟨_, kp R3, World.ownsRow_nil _ _ _ _⟩, hL2, hD2, by simp⟩ T2 (kp B1)).mono ?_
  · intro d t X0 X hdl hg0 hF hT
    have hg := hg0.fr hF
    have hta : Hid (flatT (d ++ [t]) = flatT d ++ [.int .i64 t.kind, .string ⟨t.text.toArray⟩, .int .i64 t.frm, .int .i64 t.to, .int .i64 t.n]) := by
      show _ = _
      rw [flatT_append, flatT_one]
      rfl
    unfold tokA
    generalize (t.kind : Int) = x0 at hta ⊢
    generalize (⟨t.text.toArray⟩ : ByteArray) = x1 at hta ⊢
    generalize (t.frm : Int) = x2 at hta ⊢
    generalize (t.to : Int) = x3 at hta ⊢
    generalize (t.n : Int) = x4 at hta ⊢
    have HD : Hid (w1.heap.size = w.heap.size + 5) := hD
    have HDL : Hid (d.length + 1 ≤ 200000) := Nat.le_trans hdl HS.out
    have HX0 : Hid (w.heap.size + 6 < X0.heap.size) := (Array.getElem?_eq_some_iff.1 hg0.rd).1
    clear hD HS1 hdl
    refine hYr _ X _ rfl hg.rd ?_
    clear hYr
    gi_wp2
    have hgA := hg.fr (Fr.alloc (Fr.refl _ X) (.cells #[.int .i64 x0, .string x1, .int .i64 x2, .int .i64 x3, .int .i64 x4] 58))
    have uA := TB.new X (.int .i64 x0) (.string x1) (.int .i64 x2) (.int .i64 x3) (.int .i64 x4)
    have fA : Fr [] X (X.alloc (.cells #[.int .i64 x0, .string x1, .int .i64 x2, .int .i64 x3, .int .i64 x4] 58)) := (Fr.refl _ _).alloc _
    refine ⟨hgA.rd, ?_⟩
    have hXs : Hid (w.heap.size + 6 < X.heap.size) := (Array.getElem?_eq_some_iff.1 hg.rd).1
    have hloX : ∃ sv0, Hid (∀ k, sv0.ownBlock = some k → w.heap.size + 7 ≤ k ∧ k < X0.heap.size) ∧ X.heap[w.heap.size + 1 + 1 + 1]? = some (.cells #[sv0] 44 (0, 0)) := by
      obtain ⟨sv0, hb0, ho0⟩ := hg0.box
      exact ⟨sv0, fun k hk => ho0.lt k hk, (hF.block _ (Array.getElem?_eq_some_iff.1 hb0).1 (by simp)).trans hb0⟩
    obtain ⟨sv0, hl0, hb0⟩ := hloX
    generalize X.alloc (.cells #[.int .i64 x0, .string x1, .int .i64 x2, .int .i64 x3, .int .i64 x4] 58) = XA at *
    obtain ⟨sv, hb, ho⟩ := hgA.box
    obtain rfl : sv0 = sv := by
      have := (fA.block _ (Array.getElem?_eq_some_iff.1 hb0).1 (by simp)).trans hb0
      rw [hb] at this
      simp at this
      exact this.symm
    clear hb0
    generalize hCC : X.heap.size = C at *
    have hbl := (Array.getElem?_eq_some_iff.1 hgA.rd).1
    have f1 := Fr.putObj (W := XA) (l := w.heap.size + 5 + 1) (.loop (rec .busy none))
    have hz1' := World.putObj_heap_same (w := XA) (r := w.heap.size + 5 + 1) (o := .loop (rec .busy none)) hbl
    have q0 : (XA.putObj (w.heap.size + 5 + 1) (.loop (rec .busy none))).heap[w.heap.size]? = _ := (World.putObj_heap_other (by omega)).trans hgA.r0
    have q1 : (XA.putObj (w.heap.size + 5 + 1) (.loop (rec .busy none))).heap[w.heap.size + 1]? = _ := (World.putObj_heap_other (by omega)).trans hgA.r1
    have q2 : (XA.putObj (w.heap.size + 5 + 1) (.loop (rec .busy none))).heap[w.heap.size + 1 + 1]? = _ := (World.putObj_heap_other (by omega)).trans hgA.r2
    have hb1 : (XA.putObj (w.heap.size + 5 + 1) (.loop (rec .busy none))).heap[w.heap.size + 1 + 1 + 1]? = _ := (World.putObj_heap_other (by omega)).trans hb
    have hd1 : (XA.putObj (w.heap.size + 5 + 1) (.loop (rec .busy none))).heap[w.heap.size + 5]? = _ := (World.putObj_heap_other (by omega)).trans hgA.dfr
    have u1 : TB (XA.putObj (w.heap.size + 5 + 1) (.loop (rec .busy none))) C _ _ _ _ _ := uA.fr f1 (by simp; have := hXs.out; omega)
    have ho1 := own_fr ho f1 (fun k hk => by simp; have := (hl0.out k hk).1; omega)
    have f01 : Fr [w.heap.size + 5 + 1] X (XA.putObj (w.heap.size + 5 + 1) (.loop (rec .busy none))) := (fA.sub (by simp)).trans f1
    have hO1 : Fr [] w (XA.putObj (w.heap.size + 5 + 1) (.loop (rec .busy none))) := ((hgA.old.sub (T := [w.heap.size + 5 + 1]) (by simp)).trans f1).sub (fun k hk => .inr (by simp at hk; omega))
    have ca := at_cells hb1 0 rfl
    have hsz : Hid (C < (XA.putObj (w.heap.size + 5 + 1) (.loop (rec .busy none))).heap.size) := u1.lt
    generalize XA.putObj (w.heap.size + 5 + 1) (.loop (rec .busy none)) = X1 at *
    clear hbl f1 uA fA hb ho hgA hg
    have e0 := u1.c0
    have e1 := u1.c1
    have e2 := u1.c2
    have e3 := u1.c3
    have e4 := u1.c4
    have hnew := tok_new X1 (.int .i64 x0) (.string x1) (.int .i64 x2) (.int .i64 x3) (.int .i64 x4)
    have HCC : Hid (X.heap.size = C) := hCC
    clear hCC
    gi_wp2_with (gi_at_builtin; refine wpListIn_append_own_at _ rfl _ _ 44 rfl (w.heap.size + 7) 58 i5 (.agg #[.int .i64 0, .string ⟨#[]⟩, .int .i64 0, .int .i64 0, .int .i64 0]) 5 48 under42 hi hz hz1 hby rfl (by decide) sv0 d.length (flatT d) rfl (ho1.alloc _) ⟨X1.heap.size, 0, none⟩ 1 1 [.int .i64 x0, .string x1, .int .i64 x2, .int .i64 x3, .int .i64 x4] rfl rfl hnew (by simp [Value.oneCell']) (by have := HDL.out; have : maxLen = 9223372036854775807 := rfl; omega) (by have := HDL.out; omega) (by have := hXs.out; have := hsz.out; simp; omega) ?_)
    intro v1 w3 hown1 hgrow hnil hloc
    have f2 : Fr sv0.ownBlock.toList X1 w3 := ((Fr.refl _ _).alloc _).trans ((Fr.ofGrown hgrow).sub (fun k hk => .inl hk))
    have keep : ∀ {k : Nat} {o : Obj}, k < w.heap.size + 7 → X1.heap[k]? = some o → w3.heap[k]? = some o := fun hk h1 => (f2.block _ (Array.getElem?_eq_some_iff.1 h1).1 (fun hm => by have := (hl0.out _ (by simpa using hm)).1; omega)).trans h1
    have q0' := keep (by omega) q0
    have q1' := keep (by omega) q1
    have q2' := keep (by omega) q2
    have hb2 := keep (by omega) hb1
    have hd2 := keep (by omega) hd1
    have hz2 := keep (by omega) hz1'
    have cb1 := at_cells hb2 0 rfl
    have fb1 : w3.frozen? ⟨w.heap.size + 1 + 1 + 1, 0, none⟩ = false := by simp [World.frozen?, hb2]
    obtain ⟨av, cv, hv, _⟩ := own_slice hown1
    subst hv
    have hlo1 : Hid (∀ k, (Value.slice av (d.length + 1) cv).ownBlock = some k → w.heap.size + 7 ≤ k) := fun k hk => (hown1.lt k hk).1
    clear ca hgrow e0 e1 e2 e3 e4 hnew keep u1
    gi_wp2
    have f3 : Fr [w.heap.size + 1 + 1 + 1] w3 (w3.setCell ⟨w.heap.size + 1 + 1 + 1, 0, none⟩ (.slice av (d.length + 1) cv)) := Fr.setCell (Fr.refl _ _) (.inl (by simp)) _
    have hb3 : (w3.setCell ⟨w.heap.size + 1 + 1 + 1, 0, none⟩ (.slice av (d.length + 1) cv)).heap[w.heap.size + 1 + 1 + 1]? = some (.cells #[.slice av (d.length + 1) cv] 44 (0, 0)) := by simp [World.setCell, Array.getElem?_modify, hb2]
    have keep3 : ∀ {k : Nat} {o : Obj}, k ≠ w.heap.size + 1 + 1 + 1 → w3.heap[k]? = some o → (w3.setCell ⟨w.heap.size + 1 + 1 + 1, 0, none⟩ (.slice av (d.length + 1) cv)).heap[k]? = some o := fun hk h1 => (f3.block _ (Array.getElem?_eq_some_iff.1 h1).1 (by simpa using hk)).trans h1
    have q0'' := keep3 (by omega) q0'
    have q1'' := keep3 (by omega) q1'
    have q2'' := keep3 (by omega) q2'
    have hd3 := keep3 (by omega) hd2
    have hz3 := keep3 (by omega) hz2
    have hown3 := own_fr hown1 f3 (fun k hk => by simp; have := hlo1.out k hk; omega)
    have hO3 : Fr [] w (w3.setCell ⟨w.heap.size + 1 + 1 + 1, 0, none⟩ (.slice av (d.length + 1) cv)) := ((hO1.sub (T := (w.heap.size + 1 + 1 + 1) :: sv0.ownBlock.toList) (by simp)).trans ((f2.sub (fun k hk => .inl (by simp at hk; simp [hk]))).trans (f3.sub (fun k hk => .inl (by simp at hk; simp [hk]))))).sub (fun k hk => .inr (by
      simp only [List.mem_cons, Option.mem_toList] at hk
      rcases hk with rfl | hk
      · omega
      · have := (hl0.out k hk).1; omega))
    have hM3 : Fr ((w.heap.size + 5 + 1) :: (w.heap.size + 1 + 1 + 1) :: sv0.ownBlock.toList) X (w3.setCell ⟨w.heap.size + 1 + 1 + 1, 0, none⟩ (.slice av (d.length + 1) cv)) :=
      (f01.sub (fun k hk => .inl (by simp at hk; simp [hk]))).trans ((f2.sub (fun k hk => .inl (by simp at hk; simp [hk]))).trans (f3.sub (fun k hk => .inl (by simp at hk; simp [hk]))))
    clear keep3
    generalize w3.setCell ⟨w.heap.size + 1 + 1 + 1, 0, none⟩ (.slice av (d.length + 1) cv) = w4 at *
    have hl4 := (Array.getElem?_eq_some_iff.1 hz3).1
    refine ⟨hz3, rfl, ⟨(w.heap.size + 5 + 1) :: (w.heap.size + 1 + 1 + 1) :: sv0.ownBlock.toList, ?_, ?_⟩, ?_⟩
    · exact hM3.trans ((Fr.putObj _).sub (fun k hk => .inl (by simp at hk; simp [hk])))
    · intro j hj
      simp only [List.mem_cons, Option.mem_toList] at hj
      have h0 := HX0.out
      have hC := HCC.out
      rcases hj with rfl | rfl | hj
      · exact ⟨by omega, by omega, by omega⟩
      · exact ⟨by omega, by omega, by omega⟩
      · have := hl0.out j hj
        exact ⟨by omega, by omega, by omega⟩
    · have f4 := Fr.putObj (W := w4) (l := w.heap.size + 5 + 1) (.loop (rec .ready none))
      have k4 : ∀ {k : Nat} {o : Obj}, k ≠ w.heap.size + 5 + 1 → w4.heap[k]? = some o → (w4.putObj (w.heap.size + 5 + 1) (.loop (rec .ready none))).heap[k]? = some o := fun hk h1 => (World.putObj_heap_other hk).trans h1
      have hown4 := own_fr hown3 f4 (fun k hk => by simp; have := hlo1.out k hk; omega)
      refine ⟨((hO3.sub (T := [w.heap.size + 5 + 1]) (by simp)).trans f4).sub (fun k hk => .inr (by simp at hk; omega)), k4 (by omega) q0'', k4 (by omega) q1'', k4 (by omega) q2'', ⟨_, k4 (by omega) hb3, ?_⟩, World.putObj_heap_same hl4, k4 (by omega) hd3, by have := HDL.out; simp; omega⟩
      rw [hta.out]
      simpa using hown4
  · intro d p er X0 X hg0 hF hT hne
    have hg := hg0.fr hF
    have hne' : ((er : Int) != 0) = true := by simp; omega
    have HD : Hid (w1.heap.size = w.heap.size + 5) := hD
    clear hD HS1 hne
    generalize hP : (p : Int) = p' at *
    generalize hErr : (er : Int) = er' at *
    refine hYr _ X _ rfl hg.rd ?_
    clear hYr
    gi_wp2
    have hgA := hg.fr (Fr.alloc (Fr.refl _ X) (.cells #[.int .i64 0, .string ⟨#[]⟩, .int .i64 p', .int .i64 0, .int .i64 0] 58))
    have uA := TB.new X (.int .i64 0) (.string ⟨#[]⟩) (.int .i64 p') (.int .i64 0) (.int .i64 0)
    have fA : Fr [] X (X.alloc (.cells #[.int .i64 0, .string ⟨#[]⟩, .int .i64 p', .int .i64 0, .int .i64 0] 58)) := (Fr.refl _ _).alloc _
    refine ⟨hgA.rd, ?_⟩
    have hXs : Hid (w.heap.size + 6 < X.heap.size) := (Array.getElem?_eq_some_iff.1 hg.rd).1
    generalize X.alloc (.cells #[.int .i64 0, .string ⟨#[]⟩, .int .i64 p', .int .i64 0, .int .i64 0] 58) = XA at *
    generalize hCC : X.heap.size = C at *
    have hbl := (Array.getElem?_eq_some_iff.1 hgA.rd).1
    have f1 := Fr.putObj (W := XA) (l := w.heap.size + 5 + 1) (.loop (rec .busy none))
    have hz1' := World.putObj_heap_same (w := XA) (r := w.heap.size + 5 + 1) (o := .loop (rec .busy none)) hbl
    have q0 : (XA.putObj (w.heap.size + 5 + 1) (.loop (rec .busy none))).heap[w.heap.size]? = _ := (World.putObj_heap_other (by omega)).trans hgA.r0
    have q1 : (XA.putObj (w.heap.size + 5 + 1) (.loop (rec .busy none))).heap[w.heap.size + 1]? = _ := (World.putObj_heap_other (by omega)).trans hgA.r1
    have q2 : (XA.putObj (w.heap.size + 5 + 1) (.loop (rec .busy none))).heap[w.heap.size + 1 + 1]? = _ := (World.putObj_heap_other (by omega)).trans hgA.r2
    have hd1 : (XA.putObj (w.heap.size + 5 + 1) (.loop (rec .busy none))).heap[w.heap.size + 5]? = _ := (World.putObj_heap_other (by omega)).trans hgA.dfr
    have u1 : TB (XA.putObj (w.heap.size + 5 + 1) (.loop (rec .busy none))) C _ _ _ _ _ := uA.fr f1 (by simp; have := hXs.out; omega)
    have hO1 : Fr [] w (XA.putObj (w.heap.size + 5 + 1) (.loop (rec .busy none))) := ((hgA.old.sub (T := [w.heap.size + 5 + 1]) (by simp)).trans f1).sub (fun k hk => .inr (by simp at hk; omega))
    have hCl : Hid (w.heap.size + 6 < C) := hXs
    generalize XA.putObj (w.heap.size + 5 + 1) (.loop (rec .busy none)) = X1 at *
    clear hbl f1 uA fA hgA hg hCC
    have e2 := u1.c2
    have c0 := at_cells q0 0 rfl
    have c1 := at_cells q1 0 rfl
    have c2 := at_cells q2 0 rfl
    have z0 : X1.frozen? ⟨w.heap.size, 0, none⟩ = false := by simp [World.frozen?, q0]
    have z1 : X1.frozen? ⟨w.heap.size + 1, 0, none⟩ = false := by simp [World.frozen?, q1]
    have z2 : X1.frozen? ⟨w.heap.size + 1 + 1, 0, none⟩ = false := by simp [World.frozen?, q2]
    have n0 : C ≠ w.heap.size := by have := hCl.out; omega
    have n1 : C ≠ w.heap.size + 1 := by have := hCl.out; omega
    have n2 : C ≠ w.heap.size + 1 + 1 := by have := hCl.out; omega
    have hfin := set3 (p := p') (er := er') (r' := rec .done (some .ret)) rfl q0 q1 q2 hz1' hd1 (by omega) (by omega) (by omega) hO1
    gi_wp2
    gi_region
    all_goals
      gi_wp2
      obtain ⟨a1, a2, a3, a4, a5, a6, a7⟩ := hfin _ rfl
      refine ⟨a1, ⟨false, rfl⟩, a2, a3, ?_, ?_, a6, a7⟩
      · rw [hP]; exact a4
      · rw [hErr]; exact a5
  · rintro e W2 ⟨hv, hQ⟩
    rw [walkT_all] at hQ
    refine ⟨hv, ?_⟩
    have HD : Hid (w1.heap.size = w.heap.size + 5) := hD
    obtain ⟨ts, er, hsc⟩ : ∃ ts er, sc s 0 = (ts, er) := ⟨_, _, rfl⟩
    rw [hsc] at hQ
    have HSC : Hid (sc s 0 = (ts, er)) := hsc
    clear hD HS1 hYr hsc
    cases er with
    | some x =>
      obtain ⟨p, c⟩ := x
      obtain ⟨hO, q0, q1, q2, hl, hd⟩ := hQ
      refine .inr ⟨hl, ?_⟩
      have hlt := (Array.getElem?_eq_some_iff.1 hl).1
      have f6 := Fr.putObj (W := W2) (l := w.heap.size + 5 + 1) (.loop (rec .exhausted (some .ret)))
      have k6 : ∀ {k : Nat} {o : Obj}, k ≠ w.heap.size + 5 + 1 → W2.heap[k]? = some o → (W2.putObj (w.heap.size + 5 + 1) (.loop (rec .exhausted (some .ret)))).heap[k]? = some o := fun hk h1 => (World.putObj_heap_other hk).trans h1
      have q0 := k6 (by omega) q0
      have q1 := k6 (by omega) q1
      have q2 := k6 (by omega) q2
      have hd := k6 (by omega) hd
      have hO := ((hO.sub (T := [w.heap.size + 5 + 1]) (by simp)).trans f6).sub (T := []) (fun k hk => .inr (by simp at hk; omega))
      clear k6 f6
      generalize W2.putObj (w.heap.size + 5 + 1) (.loop (rec .exhausted (some .ret))) = W3 at *
      gi_wp2
      refine ⟨by simp, .inl ⟨_, _, rfl, run_takeDeferred hd, ?_⟩⟩
      have f7 := Fr.putObj (W := W3) (l := w.heap.size + 5) (.deferred none)
      have k7 : ∀ {k : Nat} {o : Obj}, k ≠ w.heap.size + 5 → W3.heap[k]? = some o → (W3.putObj (w.heap.size + 5) (.deferred none)).heap[k]? = some o := fun hk h1 => (World.putObj_heap_other hk).trans h1
      have c0 := at_cells (k7 (by omega) q0) 0 rfl
      have c1 := at_cells (k7 (by omega) q1) 0 rfl
      have c2 := at_cells (k7 (by omega) q2) 0 rfl
      have hO7 := ((hO.sub (T := [w.heap.size + 5]) (by simp)).trans f7).sub (T := []) (fun k hk => .inr (by simp at hk; omega))
      refine ⟨.tuple #[.slice none 0 0, .int .i64 (p : Nat), .int .i64 (c : Nat)], ?_, scOut_some HSC.out, hO7⟩
      clear k7 f7 hO7
      generalize W3.putObj (w.heap.size + 5) (.deferred none) = W4 at *
      simp [results, Tryz.results22, go_sem, c0, c1, c2]
    | none =>
      have hG : SG w w.heap.size (w.heap.size + 5 + 1) (w.heap.size + 5) rec ts W2 := hQ
      refine .inl ⟨hG.rd, ?_⟩
      obtain ⟨sv, hb, ho⟩ := hG.box
      have hlt := (Array.getElem?_eq_some_iff.1 hG.rd).1
      have f6 := Fr.putObj (W := W2) (l := w.heap.size + 5 + 1) (.loop (rec .exhausted none))
      have k6 : ∀ {k : Nat} {o : Obj}, k ≠ w.heap.size + 5 + 1 → W2.heap[k]? = some o → (W2.putObj (w.heap.size + 5 + 1) (.loop (rec .exhausted none))).heap[k]? = some o := fun hk h1 => (World.putObj_heap_other hk).trans h1
      have q0 := k6 (by omega) hG.r0
      have q1 := k6 (by omega) hG.r1
      have q2 := k6 (by omega) hG.r2
      have hb := k6 (by omega) hb
      have hd := k6 (by omega) hG.dfr
      have hlo : Hid (∀ k, sv.ownBlock = some k → w.heap.size + 7 ≤ k) := fun k hk => (ho.lt k hk).1
      have ho := own_fr ho f6 (fun k hk => by simp; have := hlo.out k hk; omega)
      have hO := ((hG.old.sub (T := [w.heap.size + 5 + 1]) (by simp)).trans f6).sub (T := []) (fun k hk => .inr (by simp at hk; omega))
      have hln : Hid (ts.length ≤ 200000) := hG.len
      have hsz : Hid (w.heap.size + 6 < (W2.putObj (w.heap.size + 5 + 1) (.loop (rec .exhausted none))).heap.size) := Nat.lt_of_lt_of_le hlt f6.size
      clear k6 f6 hlt hG hQ
      generalize W2.putObj (w.heap.size + 5 + 1) (.loop (rec .exhausted none)) = W3 at *
      have ca := at_cells hb 0 rfl
      have c0 := at_cells q0 0 rfl
      have c1 := at_cells q1 0 rfl
      have c2 := at_cells q2 0 rfl
      have hnew := tok_new W3 (.int .i64 0) (.string ⟨#[]⟩) (.int .i64 s.size) (.int .i64 s.size) (.int .i64 0)
      gi_wp2_with (gi_at_builtin; refine wpListIn_append_own_at _ rfl _ _ 44 rfl (w.heap.size + 7) 58 i5 (.agg #[.int .i64 0, .string ⟨#[]⟩, .int .i64 0, .int .i64 0, .int .i64 0]) 5 48 under42 hi hz hz1 hby rfl (by decide) sv ts.length (flatT ts) rfl (ho.alloc _) ⟨W3.heap.size, 0, none⟩ 1 1 [.int .i64 0, .string ⟨#[]⟩, .int .i64 s.size, .int .i64 s.size, .int .i64 0] rfl rfl hnew (by simp [Value.oneCell']) (by have := hln.out; have : maxLen = 9223372036854775807 := rfl; omega) (by have := hln.out; omega) (by have := hsz.out; simp; omega) ?_)
      intro v1 w3 hown1 hgrow hnil hloc
      have f2 : Fr sv.ownBlock.toList W3 w3 := ((Fr.refl _ _).alloc _).trans ((Fr.ofGrown hgrow).sub (fun k hk => .inl hk))
      have keep : ∀ {k : Nat} {o : Obj}, k < w.heap.size + 7 → W3.heap[k]? = some o → w3.heap[k]? = some o := fun hk h1 => (f2.block _ (Array.getElem?_eq_some_iff.1 h1).1 (fun hm => by have := (hlo.out _ (by simpa using hm)); omega)).trans h1
      have q0 := keep (by omega) q0
      have q1 := keep (by omega) q1
      have q2 := keep (by omega) q2
      have hd := keep (by omega) hd
      have hO3 : Fr [] w w3 := ((hO.sub (T := sv.ownBlock.toList) (by simp)).trans f2).sub (fun k hk => .inr (by simp only [Option.mem_toList] at hk; have := hlo.out k hk; omega))
      obtain ⟨av, cv, hv, _⟩ := own_slice hown1
      subst hv
      have hlo1 : Hid (∀ k, (Value.slice av (ts.length + 1) cv).ownBlock = some k → w.heap.size + 7 ≤ k) := fun k hk => (hown1.lt k hk).1
      clear ca hgrow hnew keep c0 c1 c2
      have c0 := at_cells q0 0 rfl
      have c1 := at_cells q1 0 rfl
      have c2 := at_cells q2 0 rfl
      have z0 : w3.frozen? ⟨w.heap.size, 0, none⟩ = false := by simp [World.frozen?, q0]
      have z1 : w3.frozen? ⟨w.heap.size + 1, 0, none⟩ = false := by simp [World.frozen?, q1]
      have z2 : w3.frozen? ⟨w.heap.size + 1 + 1, 0, none⟩ = false := by simp [World.frozen?, q2]
      gi_wp2
      have A0 : (((w3.setCell ⟨w.heap.size, 0, none⟩ (.slice av (ts.length + 1) cv)).setCell ⟨w.heap.size + 1, 0, none⟩ (.int .i64 0)).setCell ⟨w.heap.size + 1 + 1, 0, none⟩ (.int .i64 0)).heap[w.heap.size]? = some (.cells #[.slice av (ts.length + 1) cv] 44 (0, 0)) := set_other (by omega) (set_other (by omega) (set_same q0))
      have A1 : (((w3.setCell ⟨w.heap.size, 0, none⟩ (.slice av (ts.length + 1) cv)).setCell ⟨w.heap.size + 1, 0, none⟩ (.int .i64 0)).setCell ⟨w.heap.size + 1 + 1, 0, none⟩ (.int .i64 0)).heap[w.heap.size + 1]? = some (.cells #[.int .i64 0] 3 (0, 0)) := set_other (by omega) (set_same (set_other (by omega) q1))
      have A2 : (((w3.setCell ⟨w.heap.size, 0, none⟩ (.slice av (ts.length + 1) cv)).setCell ⟨w.heap.size + 1, 0, none⟩ (.int .i64 0)).setCell ⟨w.heap.size + 1 + 1, 0, none⟩ (.int .i64 0)).heap[w.heap.size + 1 + 1]? = some (.cells #[.int .i64 0] 24 (0, 0)) := set_same (set_other (by omega) (set_other (by omega) q2))
      have f5 : Fr [w.heap.size, w.heap.size + 1, w.heap.size + 1 + 1] w3 (((w3.setCell ⟨w.heap.size, 0, none⟩ (.slice av (ts.length + 1) cv)).setCell ⟨w.heap.size + 1, 0, none⟩ (.int .i64 0)).setCell ⟨w.heap.size + 1 + 1, 0, none⟩ (.int .i64 0)) := (((Fr.refl _ _).setCell (.inl (by simp)) _).setCell (.inl (by simp)) _).setCell (.inl (by simp)) _
      generalize ((w3.setCell ⟨w.heap.size, 0, none⟩ (.slice av (ts.length + 1) cv)).setCell ⟨w.heap.size + 1, 0, none⟩ (.int .i64 0)).setCell ⟨w.heap.size + 1 + 1, 0, none⟩ (.int .i64 0) = w5 at *
      have hd5 := (f5.block _ (Array.getElem?_eq_some_iff.1 hd).1 (by simp)).trans hd
      have ho5 := own_fr hown1 f5 (fun k hk => by simp; have := hlo1.out k hk; omega)
      have hO5 : Fr [] w w5 := ((hO3.sub (T := [w.heap.size, w.heap.size + 1, w.heap.size + 1 + 1]) (by simp)).trans f5).sub (fun k hk => .inr (by simp at hk; omega))
      refine ⟨by simp, .inl ⟨_, _, rfl, run_takeDeferred hd5, ?_⟩⟩
      have f7 := Fr.putObj (W := w5) (l := w.heap.size + 5) (.deferred none)
      have k7 : ∀ {k : Nat} {o : Obj}, k ≠ w.heap.size + 5 → w5.heap[k]? = some o → (w5.putObj (w.heap.size + 5) (.deferred none)).heap[k]? = some o := fun hk h1 => (World.putObj_heap_other hk).trans h1
      have c0 := at_cells (k7 (by omega) A0) 0 rfl
      have c1 := at_cells (k7 (by omega) A1) 0 rfl
      have c2 := at_cells (k7 (by omega) A2) 0 rfl
      have hO7 := ((hO5.sub (T := [w.heap.size + 5]) (by simp)).trans f7).sub (T := []) (fun k hk => .inr (by simp at hk; omega))
      have ho7 := own_fr ho5 f7 (fun k hk => by simp; have := hlo1.out k hk; omega)
      refine ⟨.tuple #[.slice av (ts.length + 1) cv, .int .i64 0, .int .i64 0], ?_, scOut_none HSC.out ?_, hO7⟩
      · clear k7 f7 hO7 ho7
        generalize w5.putObj (w.heap.size + 5) (.deferred none) = W4 at *
        simp [results, Tryz.results22, go_sem, c0, c1, c2]
      · rw [flatT_append, flatT_one]
        exact own_low ho7 (by omega)
end Go.Proofs.YtnkjgggbiokfbaaGreatDoor
namespace Go.Proofs.YtnkjgggbiokfbaaGreatDoor
open Go.RowKit
set_option linter.unusedVariables false
set_option linter.unusedSimpArgs false

/-- A node: kind, text, kids' numbers, place. -/
structure PN where
  kind : Nat
  text : List UInt8
  kids : List Nat
  pl : Nat

abbrev R := Option (Except Nat (List Nat × Nat × List PN))

def tk (ts : List Tok) (i : Nat) : Tok := ts.getD i ⟨0, [], 0, 0, 0⟩
/-- What a token is in the grammar. -/
def nxT (t : Tok) : List UInt8 := if t.kind = 1 then [110, 97, 109, 101] else if t.kind = 4 then [110, 117, 109, 98, 101, 114] else if t.kind = 0 then [] else t.text
def nx (ts : List Tok) (i : Nat) : List UInt8 := nxT (tk ts i)

def bindR (r : R) (k : List Nat → Nat → List PN → R) : R :=
  match r with
  | some (.ok (v, i, ns)) => k v i ns
  | some (.error e) => some (.error e)
  | none => none
def layR (kind : Nat) (text : List UInt8) (pl : Nat) (kids : List Nat) (i : Nat) (ns : List PN) : R := some (.ok ([ns.length], i, ns ++ [⟨kind, text, kids, pl⟩]))
def wantR (ts : List Tok) (what : List UInt8) (i : Nat) (k : R) : R := if nx ts i = what then k else some (.error i)

/-- The line of an operator. -/
def lineL (s : List UInt8) : Nat :=
  if s = [61, 61] ∨ s = [33, 61] ∨ s = [60] ∨ s = [60, 61] then 1
  else if s = [124] ∨ s = [94] then 2
  else if s = [38] then 3
  else if s = [60, 60] ∨ s = [62, 62] then 4
  else if s = [43] ∨ s = [45] then 5
  else if s = [42] ∨ s = [47] ∨ s = [37] then 6
  else 0
def isSg (s : List UInt8) : Bool := s == [45] || s == [33] || s == [126]
def placeK (k : Nat) : Bool := k == 17 || k == 20 || k == 21 || k == 30

/-- What is read. -/
inductive NT where
  | prog | progL (acc : List Nat) | decl | recd | func | name | block (pl : Nat) | blockL (pl : Nat) (acc : List Nat) | stmt | letS | choice | other | whileS | worded (k : Nat) | merge | setOrDo | setS (place : Nat)
  | expr | chain (line : Nat) | chainL (line n : Nat) | joined (left line : Nat) | signed | signedL (acc : List Tok) | back | backL (n : Nat) | field (n : Nat) | elem (n : Nat)
  | first | number | nameOrCall | made | alone (k : Nat) | empty (k : Nat) | about (k : Nat) | brack
  | listed (thing : Bool) (closing : List UInt8) | listedL (thing : Bool) (closing : List UInt8) (acc : List Nat)
  | laySigns (acc : List Tok) (n : Nat)

/-- Which first part begins with a token. -/
def firstNT (s : List UInt8) : Option NT :=
  if s = [110, 117, 109, 98, 101, 114] then some .number
  else if s = [110, 97, 109, 101] then some .nameOrCall
  else if s = [110, 117, 108, 108] then some (.alone 16)
  else if s = [114, 111, 111, 116] then some (.alone 30)
  else if s = [110, 101, 119] then some .made
  else if s = [97, 114, 114] then some (.about 24)
  else if s = [108, 101, 110] then some (.about 25)
  else if s = [105, 110] then some (.empty 26)
  else if s = [105, 109, 103] then some (.about 27)
  else if s = [115, 105, 122, 101] then some (.empty 28)
  else if s = [112, 114, 111, 109, 111, 116, 101] then some (.about 29)
  else if s = [40] then some .brack
  else none
def declNT (s : List UInt8) : Option NT :=
  if s = [114, 101, 99] then some .recd
  else if s = [102, 110] then some .func
  else none
def stmtNT (s : List UInt8) : Option NT :=
  if s = [108, 101, 116] then some .letS
  else if s = [105, 102] then some .choice
  else if s = [119, 104, 105, 108, 101] then some .whileS
  else if s = [114, 101, 116, 117, 114, 110] then some (.worded 9)
  else if s = [111, 117, 116] then some (.worded 10)
  else if s = [115, 116, 111, 112] then some (.worded 11)
  else if s = [109, 101, 114, 103, 101] then some .merge
  else none

def nmB : List UInt8 := [110, 97, 109, 101]
def laySg : List Tok → Nat → List PN → Nat × List PN
  | [], n, ns => (n, ns)
  | t :: r, n, ns => laySg r ns.length (ns ++ [⟨18, t.text, [n], t.frm⟩])

def hd (v : List Nat) : Nat := v.getD 0 0
def kdN (ns : List PN) (n : Nat) : Nat := match ns[n]? with | some x => x.kind | none => 0
def plN (ns : List PN) (n : Nat) : Nat := match ns[n]? with | some x => x.pl | none => 0

def P (ts : List Tok) : Nat → NT → Nat → List PN → R
  | 0, _, _, _ => none
  | f + 1, nt, i, ns =>
    match nt with
    | .prog => P ts f (.progL []) i ns
    | .progL acc => if nx ts i = [] then layR 1 [] 0 acc i ns else bindR (P ts f .decl i ns) fun v i ns => P ts f (.progL (acc ++ [hd v])) i ns
    | .decl => match declNT (nx ts i) with | some nt => P ts f nt i ns | none => some (.error i)
    | .recd => wantR ts nmB (i + 1) <| wantR ts [123] (i + 2) <| bindR (P ts f (.listed false [125]) (i + 3) ns) fun v j ns => layR 2 (tk ts (i + 1)).text (tk ts (i + 1)).frm v j ns
    | .func => wantR ts nmB (i + 1) <| wantR ts [40] (i + 2) <| bindR (P ts f (.listed false [41]) (i + 3) ns) fun v j ns => bindR (P ts f (.block 0) j ns) fun b j ns => layR 3 (tk ts (i + 1)).text (tk ts (i + 1)).frm (v ++ [hd b]) j ns
    | .name => wantR ts nmB i <| layR 17 (tk ts i).text (tk ts i).frm [] (i + 1) ns
    | .block _ => wantR ts [123] i <| P ts f (.blockL (tk ts i).frm []) (i + 1) ns
    | .blockL pl acc => if nx ts i = [125] then layR 4 [] pl acc (i + 1) ns else bindR (P ts f .stmt i ns) fun v i ns => P ts f (.blockL pl (acc ++ [hd v])) i ns
    | .stmt => match stmtNT (nx ts i) with | some nt => P ts f nt i ns | none => P ts f .setOrDo i ns
    | .letS => wantR ts nmB (i + 1) <| wantR ts [61] (i + 2) <| bindR (P ts f .expr (i + 3) ns) fun v j ns => wantR ts [59] j <| layR 5 (tk ts (i + 1)).text (tk ts (i + 1)).frm [hd v] (j + 1) ns
    | .choice => bindR (P ts f .expr (i + 1) ns) fun v j ns => bindR (P ts f (.block 0) j ns) fun b j ns => bindR (P ts f .other j ns) fun o j ns => layR 7 [] (tk ts i).frm [hd v, hd b, hd o] j ns
    | .other => if nx ts i = [101, 108, 115, 101] then P ts f (.block 0) (i + 1) ns else layR 14 [] 0 [] i ns
    | .whileS => bindR (P ts f .expr (i + 1) ns) fun v j ns => bindR (P ts f (.block 0) j ns) fun b j ns => layR 8 [] (tk ts i).frm [hd v, hd b] j ns
    | .worded k => bindR (P ts f .expr (i + 1) ns) fun v j ns => wantR ts [59] j <| layR k [] (tk ts i).frm [hd v] (j + 1) ns
    | .merge => wantR ts [40] (i + 1) <| bindR (P ts f (.listed false [41]) (i + 2) ns) fun v j ns => wantR ts [59] j <| layR 13 [] (tk ts i).frm v (j + 1) ns
    | .setOrDo => bindR (P ts f .back i ns) fun v j ns =>
        if placeK (kdN ns (hd v)) = true ∧ nx ts j = [61] then P ts f (.setS (hd v)) j ns
        else if kdN ns (hd v) ≠ 22 then some (.error j)
        else wantR ts [59] j <| layR 12 [] (plN ns (hd v)) [hd v] (j + 1) ns
    | .setS p => bindR (P ts f .expr (i + 1) ns) fun v j ns => wantR ts [59] j <| layR 6 [] (tk ts i).frm [p, hd v] (j + 1) ns
    | .expr => bindR (P ts f (.chain 2) i ns) fun v i ns => if lineL (nx ts i) = 1 then P ts f (.joined (hd v) 2) i ns else some (.ok (v, i, ns))
    | .chain line => if line = 7 then P ts f .signed i ns else bindR (P ts f (.chain (line + 1)) i ns) fun v i ns => P ts f (.chainL line (hd v)) i ns
    | .chainL line n => if lineL (nx ts i) = line then bindR (P ts f (.joined n (line + 1)) i ns) fun v i ns => P ts f (.chainL line (hd v)) i ns else some (.ok ([n], i, ns))
    | .joined left line => bindR (P ts f (.chain line) (i + 1) ns) fun v j ns => layR 19 (tk ts i).text (tk ts i).frm [left, hd v] j ns
    | .signed => P ts f (.signedL []) i ns
    | .signedL acc => if isSg (nx ts i) then P ts f (.signedL (acc ++ [tk ts i])) (i + 1) ns else bindR (P ts f .back i ns) fun v j ns => P ts f (.laySigns acc.reverse (hd v)) j ns
    | .laySigns acc n => some (.ok ([(laySg acc n ns).1], i, (laySg acc n ns).2))
    | .back => bindR (P ts f .first i ns) fun v i ns => P ts f (.backL (hd v)) i ns
    | .backL n => if nx ts i = [46] then bindR (P ts f (.field n) i ns) fun v i ns => P ts f (.backL (hd v)) i ns else if nx ts i = [91] then bindR (P ts f (.elem n) i ns) fun v i ns => P ts f (.backL (hd v)) i ns else some (.ok ([n], i, ns))
    | .field n => wantR ts nmB (i + 1) <| layR 20 (tk ts (i + 1)).text (tk ts i).frm [n] (i + 2) ns
    | .elem n => bindR (P ts f .expr (i + 1) ns) fun v j ns => wantR ts [93] j <| layR 21 [] (tk ts i).frm [n, hd v] (j + 1) ns
    | .first => match firstNT (nx ts i) with | some nt => P ts f nt i ns | none => some (.error i)
    | .number => layR 15 (Lib.decDigits (tk ts i).n) (tk ts i).frm [] (i + 1) ns
    | .nameOrCall => if nx ts (i + 1) = [40] then bindR (P ts f (.listed true [41]) (i + 2) ns) fun v j ns => layR 22 (tk ts i).text (tk ts i).frm v j ns else layR 17 (tk ts i).text (tk ts i).frm [] (i + 1) ns
    | .made => wantR ts nmB (i + 1) <| layR 23 (tk ts (i + 1)).text (tk ts (i + 1)).frm [] (i + 2) ns
    | .alone k => layR k [] (tk ts i).frm [] (i + 1) ns
    | .empty k => wantR ts [40] (i + 1) <| wantR ts [41] (i + 2) <| layR k [] (tk ts i).frm [] (i + 3) ns
    | .about k => bindR (P ts f .brack (i + 1) ns) fun v j ns => layR k [] (tk ts i).frm [hd v] j ns
    | .brack => wantR ts [40] i <| bindR (P ts f .expr (i + 1) ns) fun v j ns => wantR ts [41] j <| some (.ok (v, j + 1, ns))
    | .listed thing closing => if nx ts i = closing then some (.ok ([], i + 1, ns)) else bindR (P ts f (if thing then .expr else .name) i ns) fun v j ns => P ts f (.listedL thing closing [hd v]) j ns
    | .listedL thing closing acc => if nx ts i = [44] then bindR (P ts f (if thing then .expr else .name) (i + 1) ns) fun v j ns => P ts f (.listedL thing closing (acc ++ [hd v])) j ns else wantR ts closing i <| some (.ok (acc, i + 1, ns))
end Go.Proofs.YtnkjgggbiokfbaaGreatDoor
namespace Go.Proofs.YtnkjgggbiokfbaaGreatDoor
open Go.RowKit
set_option linter.unusedVariables false
set_option linter.unusedSimpArgs false

/-- How reading may come out; E: there is fuel enough. -/
def Good (E : Prop) (len i : Nat) (ns : List PN) (c s : Nat) (sg : Bool) (r : R) : Prop :=
  (E → ∃ x, r = some x) ∧ (∀ e, r = some (.error e) → e < len) ∧ ∀ v j ms, r = some (.ok (v, j, ms)) → i + c ≤ j ∧ j < len ∧ ns.length ≤ ms.length ∧ ms.length ≤ ns.length + 2 * (j - i) + s ∧ (sg = true → ∃ n, v = [n] ∧ n < ms.length)

section
variable {E : Prop} {len i : Nat} {ns : List PN} {c s : Nat} {sg : Bool} {r : R}
theorem Good.bind {c' s' : Nat} {sg' : Bool} {k : List Nat → Nat → List PN → R} (h : Good E len i ns c s sg r) (hk : ∀ v j ms, i + c ≤ j → j < len → ns.length ≤ ms.length → (sg = true → ∃ n, v = [n] ∧ n < ms.length) → Good E len j ms c' s' sg' (k v j ms)) : Good E len i ns (c + c') (s + s') sg' (bindR r k) := by
  obtain ⟨hE, he, hx⟩ := h
  cases r with
  | none => exact ⟨fun h => (by obtain ⟨x, hx⟩ := hE h; cases hx), fun e h => (by cases h), fun v j ms h => (by cases h)⟩
  | some x =>
    cases x with
    | error e => exact ⟨fun _ => ⟨_, rfl⟩, fun e' h => by cases h; exact he e rfl, fun v j ms h => by cases h⟩
    | ok x =>
      obtain ⟨v, j, ms⟩ := x
      obtain ⟨h1, h2, h3, h4, h5⟩ := hx v j ms rfl
      obtain ⟨y, he2, hy⟩ := hk v j ms h1 h2 h3 h5
      refine ⟨y, he2, fun v' j' ms' h => ?_⟩
      obtain ⟨g1, g2, g3, g4, g5⟩ := hy v' j' ms' h
      exact ⟨by omega, g2, by omega, by omega, g5⟩
theorem Good.shift {d c' s' : Nat} (h : Good E len (i + d) ns c s sg r) (hc : c' ≤ c + d) (hs : s ≤ s' + 2 * d) : Good E len i ns c' s' sg r := by
  obtain ⟨e, he, hx⟩ := h
  refine ⟨e, he, fun v j ms h => ?_⟩
  obtain ⟨g1, g2, g3, g4, g5⟩ := hx v j ms h
  exact ⟨by omega, g2, g3, by omega, g5⟩
theorem Good.weak {c' s' : Nat} (h : Good E len i ns c s sg r) (hc : c' ≤ c) (hs : s ≤ s') : Good E len i ns c' s' sg r := by
  obtain ⟨e, he, hx⟩ := h
  refine ⟨e, he, fun v j ms h => ?_⟩
  obtain ⟨g1, g2, g3, g4, g5⟩ := hx v j ms h
  exact ⟨by omega, g2, g3, by omega, g5⟩
theorem Good.less {E' : Prop} (h : Good E len i ns c s sg r) (hE : E' → E) : Good E' len i ns c s sg r := ⟨fun h' => h.1 (hE h'), h.2⟩
theorem Good.err {e : Nat} (h : e < len) : Good E len i ns c s sg (some (.error e)) := ⟨fun _ => ⟨_, rfl⟩, fun e' h' => by cases h'; exact h, fun v j ms h => by cases h⟩
theorem Good.lay {k : Nat} {t : List UInt8} {p : Nat} {ks : List Nat} (hi : i < len) : Good E len i ns 0 1 true (layR k t p ks i ns) := by
  refine ⟨fun _ => ⟨_, rfl⟩, (fun e h => by cases h), fun v j ms h => ?_⟩
  cases h
  refine ⟨by omega, hi, by simp, by simp, fun _ => ⟨_, rfl, by simp⟩⟩
theorem Good.one {n : Nat} (h : i < len) (hn : n < ns.length) : Good E len i ns 0 0 true (some (.ok ([n], i, ns))) := by
  refine ⟨fun _ => ⟨_, rfl⟩, (fun e h => by cases h), fun v j ms h => ?_⟩
  cases h
  exact ⟨by omega, by assumption, by omega, by omega, fun _ => ⟨_, rfl, hn⟩⟩
theorem Good.same {v : List Nat} (h : i < len) (hv : sg = true → ∃ n, v = [n] ∧ n < ns.length) : Good E len i ns 0 0 sg (some (.ok (v, i, ns))) := by
  refine ⟨fun _ => ⟨_, rfl⟩, (fun e h => by cases h), fun v' j ms h => ?_⟩
  cases h
  exact ⟨by omega, by assumption, by omega, by omega, hv⟩
end

/-- The last token is the end's, and no other. -/
structure Toks (ts : List Tok) : Prop where
  pos : 0 < ts.length
  last : ∀ i, i < ts.length → (nx ts i = [] ↔ i + 1 = ts.length)
  num : ∀ i, (tk ts i).n ≤ 9223372036854775807

theorem Toks.more {ts : List Tok} (h : Toks ts) {i : Nat} (hi : i < ts.length) (hn : nx ts i ≠ []) : i + 1 < ts.length := by
  have : ¬ i + 1 = ts.length := fun e => hn ((h.last i hi).2 e)
  omega
theorem Good.want {E : Prop} {ts : List Tok} (h : Toks ts) {i : Nat} {ns : List PN} {c s : Nat} {sg : Bool} {what : List UInt8} {k : R} (hi : i < ts.length) (hw : what ≠ []) (hk : nx ts i = what → i + 1 < ts.length → Good E ts.length (i + 1) ns c s sg k) : Good E ts.length i ns (c + 1) (s - 2) sg (wantR ts what i k) := by
  unfold wantR
  by_cases e : nx ts i = what
  · rw [if_pos e]
    exact (hk e (h.more hi (by rw [e]; exact hw))).shift (by omega) (by omega)
  · rw [if_neg e]
    exact Good.err hi

def rank : NT → Nat
  | .prog => 28 | .progL _ => 27 | .decl => 26 | .blockL _ _ => 25 | .stmt => 24 | .setOrDo => 23 | .listed _ _ => 22 | .listedL _ _ _ => 22 | .expr => 21 | .chain l => 20 - l | .chainL _ _ => 19
  | .signed => 6 | .signedL _ => 5 | .back => 4 | .backL _ => 3 | .first => 2 | .laySigns _ _ => 0
  | _ => 1
def slack : NT → Nat
  | .prog => 1 | .progL _ => 1 | .other => 1 | .signedL acc => acc.length | .laySigns acc _ => acc.length | _ => 0
def consN : NT → Nat
  | .prog => 0 | .progL _ => 0 | .other => 0 | .chainL _ _ => 0 | .backL _ => 0 | .laySigns _ _ => 0 | _ => 1
def single : NT → Bool
  | .listed _ _ => false | .listedL _ _ _ => false | _ => true
/-- What is asked ahead: the token that is passed unasked is not the end's; node numbers are some node's; lines are lines. -/
def preN (ts : List Tok) (i : Nat) (ns : List PN) : NT → Prop
  | .recd | .func | .letS | .choice | .whileS | .worded _ | .merge | .setS _ | .field _ | .elem _ | .number | .nameOrCall | .made | .alone _ | .empty _ | .about _ => nx ts i ≠ []
  | .joined _ l => nx ts i ≠ [] ∧ 0 < l ∧ l ≤ 7
  | .chain l => 0 < l ∧ l ≤ 7
  | .chainL l n => l ≤ 6 ∧ 0 < l ∧ n < ns.length
  | .backL n => n < ns.length
  | .laySigns _ n => n < ns.length
  | .listed _ c => c ≠ []
  | .listedL _ c _ => c ≠ []
  | _ => True

theorem lineL_nil : lineL [] = 0 := by decide
theorem isSg_nil : isSg [] = false := by decide
theorem laySg_len : ∀ (acc : List Tok) (n : Nat) (ns : List PN), n < ns.length → (laySg acc n ns).2.length = ns.length + acc.length ∧ (laySg acc n ns).1 < (laySg acc n ns).2.length
  | [], n, ns, h => by simp [laySg, h]
  | t :: r, n, ns, h => by
    simp only [laySg]
    have := laySg_len r ns.length (ns ++ [⟨18, t.text, [n], t.frm⟩]) (by simp)
    simp only [List.length_append, List.length_cons, List.length_nil] at this ⊢
    omega

set_option maxHeartbeats 2000000 in
theorem good {ts : List Tok} (h : Toks ts) : ∀ (f : Nat) (nt : NT) (i : Nat) (ns : List PN), i < ts.length → preN ts i ns nt → Good (40 * (ts.length - i) + rank nt < f) ts.length i ns (consN nt) (slack nt) (single nt) (P ts f nt i ns) := by
  intro f
  induction f with
  | zero => exact fun nt i ns _ _ => ⟨fun h => by omega, fun e h => by simp [P] at h, fun v j ms h => by simp [P] at h⟩
  | succ f ih =>
    intro nt i ns hi hp
    generalize hE : (40 * (ts.length - i) + rank nt < f + 1) = E
    have go : ∀ (nt' : NT) (j : Nat) (ms : List PN), j < ts.length → preN ts j ms nt' → i ≤ j → (i < j ∨ rank nt' < rank nt) → rank nt' ≤ 28 → Good E ts.length j ms (consN nt') (slack nt') (single nt') (P ts f nt' j ms) := fun nt' j ms hj hp' hij hr h28 => (ih nt' j ms hj hp').less (fun hf => by
      rw [← hE] at hf
      rcases hr with hr | hr
      · have : rank nt' ≤ 28 := h28
        omega
      · omega)
    clear ih hE
    cases nt with
    | prog => exact (go (.progL []) i ns hi trivial (Nat.le_refl _) (.inr (by decide)) (by decide))
    | progL acc =>
      simp only [P]
      by_cases e : nx ts i = []
      · rw [if_pos e]
        exact Good.lay hi
      · rw [if_neg e]
        exact ((go .decl i ns hi trivial (Nat.le_refl _) (.inr (by simp [rank])) (by decide)).bind (c' := 0) (s' := 1) (sg' := true) (fun v j ms h1 h2 h3 _ => go (.progL (acc ++ [hd v])) j ms h2 trivial (by omega) (.inl (by simp [consN] at h1; omega)) (by simp [rank]))).weak (by simp [consN]) (by simp [slack])
    | decl =>
      simp only [P]
      unfold declNT
      by_cases e1 : nx ts i = [114, 101, 99]
      · rw [if_pos e1]
        exact go .recd i ns hi (by simp [preN, e1]) (Nat.le_refl _) (.inr (by simp [rank])) (by decide)
      · rw [if_neg e1]
        by_cases e2 : nx ts i = [102, 110]
        · rw [if_pos e2]
          exact go .func i ns hi (by simp [preN, e2]) (Nat.le_refl _) (.inr (by simp [rank])) (by decide)
        · rw [if_neg e2]
          exact Good.err hi
    | recd =>
      simp only [P]
      have h1 := h.more hi hp
      refine Good.shift (d := 1) (Good.want h h1 (by decide) fun _ h2 => Good.want h h2 (by decide) fun _ h3 => Good.bind (go (.listed false [125]) (i + 1 + 1 + 1) ns h3 (by simp [preN]) (by omega) (.inl (by omega)) (by decide)) (c' := 0) (s' := 1) (sg' := true) fun v j ms _ g2 _ _ => Good.lay g2) ?_ ?_
      all_goals simp [consN, slack]
    | func =>
      simp only [P]
      have h1 := h.more hi hp
      refine Good.shift (d := 1) (Good.want h h1 (by decide) fun _ h2 => Good.want h h2 (by decide) fun _ h3 => Good.bind (go (.listed false [41]) (i + 1 + 1 + 1) ns h3 (by simp [preN]) (by omega) (.inl (by omega)) (by decide)) (c' := 1) (s' := 1) (sg' := true) fun v j ms g1 g2 _ _ => Good.bind (go (.block 0) j ms g2 trivial (by omega) (.inl (by omega)) (by decide)) (c' := 0) (s' := 1) (sg' := true) fun v j ms _ g2 _ _ => Good.lay g2) ?_ ?_
      all_goals simp [consN, slack]
    | name =>
      simp only [P]
      refine (Good.want h hi (by decide) fun _ h2 => Good.lay h2).weak ?_ ?_
      all_goals simp [consN, slack]
    | block pl =>
      simp only [P]
      refine (Good.want h hi (by decide) fun _ h2 => go (.blockL _ []) (i + 1) ns h2 trivial (by omega) (.inl (by omega)) (by simp [rank])).weak ?_ ?_
      all_goals simp [consN, slack]
    | blockL pl acc =>
      simp only [P]
      by_cases e : nx ts i = [125]
      · rw [if_pos e]
        refine Good.shift (d := 1) (Good.lay (h.more hi (by rw [e]; decide))) ?_ ?_
        all_goals simp [consN, slack]
      · rw [if_neg e]
        refine ((go .stmt i ns hi trivial (Nat.le_refl _) (.inr (by simp [rank])) (by decide)).bind (c' := 1) (s' := 0) (sg' := true) (fun v j ms h1 h2 h3 _ => go (.blockL pl (acc ++ [hd v])) j ms h2 trivial (by omega) (.inl (by simp [consN] at h1; omega)) (by simp [rank]))).weak ?_ ?_
        all_goals simp [consN, slack]
    | stmt =>
      simp only [P]
      unfold stmtNT
      have nn : ∀ l : List UInt8, l ≠ [] → nx ts i = l → nx ts i ≠ [] := fun l hl e => by rw [e]; exact hl
      by_cases e1 : nx ts i = [108, 101, 116]
      · rw [if_pos e1]; exact go .letS i ns hi (nn _ (by decide) e1) (Nat.le_refl _) (.inr (by simp [rank])) (by decide)
      rw [if_neg e1]
      by_cases e2 : nx ts i = [105, 102]
      · rw [if_pos e2]; exact go .choice i ns hi (nn _ (by decide) e2) (Nat.le_refl _) (.inr (by simp [rank])) (by decide)
      rw [if_neg e2]
      by_cases e3 : nx ts i = [119, 104, 105, 108, 101]
      · rw [if_pos e3]; exact go .whileS i ns hi (nn _ (by decide) e3) (Nat.le_refl _) (.inr (by simp [rank])) (by decide)
      rw [if_neg e3]
      by_cases e4 : nx ts i = [114, 101, 116, 117, 114, 110]
      · rw [if_pos e4]; exact go (.worded 9) i ns hi (nn _ (by decide) e4) (Nat.le_refl _) (.inr (by simp [rank])) (by decide)
      rw [if_neg e4]
      by_cases e5 : nx ts i = [111, 117, 116]
      · rw [if_pos e5]; exact go (.worded 10) i ns hi (nn _ (by decide) e5) (Nat.le_refl _) (.inr (by simp [rank])) (by decide)
      rw [if_neg e5]
      by_cases e6 : nx ts i = [115, 116, 111, 112]
      · rw [if_pos e6]; exact go (.worded 11) i ns hi (nn _ (by decide) e6) (Nat.le_refl _) (.inr (by simp [rank])) (by decide)
      rw [if_neg e6]
      by_cases e7 : nx ts i = [109, 101, 114, 103, 101]
      · rw [if_pos e7]; exact go .merge i ns hi (nn _ (by decide) e7) (Nat.le_refl _) (.inr (by simp [rank])) (by decide)
      rw [if_neg e7]
      exact go .setOrDo i ns hi trivial (Nat.le_refl _) (.inr (by simp [rank])) (by decide)
    | letS =>
      simp only [P]
      have h1 := h.more hi hp
      refine Good.shift (d := 1) (Good.want h h1 (by decide) fun _ h2 => Good.want h h2 (by decide) fun _ h3 => Good.bind (go .expr (i + 1 + 1 + 1) ns h3 trivial (by omega) (.inl (by omega)) (by decide)) (c' := 1) (s' := 0) (sg' := true) fun v j ms _ g2 _ _ => (Good.want h g2 (by decide) fun _ g3 => Good.lay g3).weak (by omega) (by omega)) ?_ ?_
      all_goals simp [consN, slack]
    | choice =>
      simp only [P]
      have h1 := h.more hi hp
      refine Good.shift (d := 1) (Good.bind (go .expr (i + 1) ns h1 trivial (by omega) (.inl (by omega)) (by decide)) (c' := 1) (s' := 2) (sg' := true) fun v j ms _ g2 _ _ => Good.bind (go (.block 0) j ms g2 trivial (by omega) (.inl (by omega)) (by decide)) (c' := 0) (s' := 2) (sg' := true) fun v j ms _ g2 _ _ => Good.bind (go .other j ms g2 trivial (by omega) (.inl (by omega)) (by decide)) (c' := 0) (s' := 1) (sg' := true) fun v j ms _ g2 _ _ => Good.lay g2) ?_ ?_
      all_goals simp [consN, slack]
    | other =>
      simp only [P]
      by_cases e : nx ts i = [101, 108, 115, 101]
      · rw [if_pos e]
        refine Good.shift (d := 1) (go (.block 0) (i + 1) ns (h.more hi (by rw [e]; decide)) trivial (by omega) (.inl (by omega)) (by decide)) ?_ ?_
        all_goals simp [consN, slack]
      · rw [if_neg e]
        exact Good.lay hi
    | whileS =>
      simp only [P]
      have h1 := h.more hi hp
      refine Good.shift (d := 1) (Good.bind (go .expr (i + 1) ns h1 trivial (by omega) (.inl (by omega)) (by decide)) (c' := 1) (s' := 1) (sg' := true) fun v j ms _ g2 _ _ => Good.bind (go (.block 0) j ms g2 trivial (by omega) (.inl (by omega)) (by decide)) (c' := 0) (s' := 1) (sg' := true) fun v j ms _ g2 _ _ => Good.lay g2) ?_ ?_
      all_goals simp [consN, slack]
    | worded k =>
      simp only [P]
      have h1 := h.more hi hp
      refine Good.shift (d := 1) (Good.bind (go .expr (i + 1) ns h1 trivial (by omega) (.inl (by omega)) (by decide)) (c' := 1) (s' := 0) (sg' := true) fun v j ms _ g2 _ _ => (Good.want h g2 (by decide) fun _ g3 => Good.lay g3).weak (by omega) (by omega)) ?_ ?_
      all_goals simp [consN, slack]
    | merge =>
      simp only [P]
      have h1 := h.more hi hp
      refine Good.shift (d := 1) (Good.want h h1 (by decide) fun _ h2 => Good.bind (go (.listed false [41]) (i + 1 + 1) ns h2 (by simp [preN]) (by omega) (.inl (by omega)) (by decide)) (c' := 1) (s' := 0) (sg' := true) fun v j ms _ g2 _ _ => (Good.want h g2 (by decide) fun _ g3 => Good.lay g3).weak (by omega) (by omega)) ?_ ?_
      all_goals simp [consN, slack]
    | setOrDo =>
      simp only [P]
      refine (Good.bind (go .back i ns hi trivial (Nat.le_refl _) (.inr (by simp [rank])) (by decide)) (c' := 0) (s' := 0) (sg' := true) fun v j ms g1 g2 _ _ => ?_).weak ?_ ?_
      · split
        · rename_i e
          exact (go (.setS (hd v)) j ms g2 (by show nx ts j ≠ []; rw [e.2]; decide) (by omega) (.inl (by simp [consN] at g1; omega)) (by simp [rank])).weak (by omega) (by simp [slack])
        · split
          · exact Good.err g2
          · exact (Good.want h g2 (by decide) fun _ g3 => Good.lay g3).weak (by omega) (by omega)
      all_goals simp [consN, slack]
    | setS p =>
      simp only [P]
      have h1 := h.more hi hp
      refine Good.shift (d := 1) (Good.bind (go .expr (i + 1) ns h1 trivial (by omega) (.inl (by omega)) (by decide)) (c' := 1) (s' := 0) (sg' := true) fun v j ms _ g2 _ _ => (Good.want h g2 (by decide) fun _ g3 => Good.lay g3).weak (by omega) (by omega)) ?_ ?_
      all_goals simp [consN, slack]
    | expr =>
      simp only [P]
      refine (Good.bind (go (.chain 2) i ns hi (by simp [preN]) (Nat.le_refl _) (.inr (by simp [rank])) (by decide)) (c' := 0) (s' := 0) (sg' := true) fun v j ms g1 g2 _ g4 => ?_).weak ?_ ?_
      · split
        · rename_i e
          exact (go (.joined (hd v) 2) j ms g2 ⟨fun e2 => by rw [e2] at e; simp [lineL] at e, by decide, by decide⟩ (by omega) (.inl (by simp [consN] at g1; omega)) (by simp [rank])).weak (by omega) (by simp [slack])
        · exact Good.same g2 g4
      all_goals simp [consN, slack]
    | chain line =>
      simp only [P]
      have hl : 0 < line ∧ line ≤ 7 := hp
      split
      · exact go .signed i ns hi trivial (Nat.le_refl _) (.inr (by simp [rank]; omega)) (by decide)
      · refine (Good.bind (go (.chain (line + 1)) i ns hi (by show 0 < line + 1 ∧ line + 1 ≤ 7; omega) (Nat.le_refl _) (.inr (by simp [rank]; omega)) (by simp [rank]; omega)) (c' := 0) (s' := 0) (sg' := true) fun v j ms g1 g2 _ g4 => ?_).weak ?_ ?_
        · obtain ⟨n, rfl, hn⟩ := g4 rfl
          exact go (.chainL line n) j ms g2 ⟨by omega, by omega, hn⟩ (by omega) (.inl (by simp [consN] at g1; omega)) (by simp [rank])
        all_goals simp [consN, slack]
    | chainL line n =>
      simp only [P]
      have hl : line ≤ 6 ∧ 0 < line ∧ n < ns.length := hp
      split
      · rename_i e
        refine (Good.bind (go (.joined n (line + 1)) i ns hi ⟨fun e2 => by rw [e2, lineL_nil] at e; omega, by omega, by omega⟩ (Nat.le_refl _) (.inr (by simp [rank])) (by simp [rank])) (c' := 0) (s' := 0) (sg' := true) fun v j ms g1 g2 _ g4 => ?_).weak ?_ ?_
        · obtain ⟨m, rfl, hm⟩ := g4 rfl
          exact go (.chainL line m) j ms g2 ⟨by omega, by omega, hm⟩ (by omega) (.inl (by simp [consN] at g1; omega)) (by simp [rank])
        all_goals simp [consN, slack]
      · exact Good.one hi hl.2.2
    | joined left line =>
      simp only [P]
      have hl : nx ts i ≠ [] ∧ 0 < line ∧ line ≤ 7 := hp
      have h1 := h.more hi hl.1
      refine Good.shift (d := 1) (Good.bind (go (.chain line) (i + 1) ns h1 hl.2 (by omega) (.inl (by omega)) (by simp [rank]; omega)) (c' := 0) (s' := 1) (sg' := true) fun v j ms _ g2 _ _ => Good.lay g2) ?_ ?_
      all_goals simp [consN, slack]
    | signed => exact go (.signedL []) i ns hi trivial (Nat.le_refl _) (.inr (by simp [rank])) (by simp [rank])
    | signedL acc =>
      simp only [P]
      split
      · rename_i e
        refine Good.shift (d := 1) (go (.signedL (acc ++ [tk ts i])) (i + 1) ns (h.more hi (fun e2 => by rw [e2, isSg_nil] at e; cases e)) trivial (by omega) (.inl (by omega)) (by simp [rank])) ?_ ?_
        all_goals simp [consN, slack]
      · refine (Good.bind (go .back i ns hi trivial (Nat.le_refl _) (.inr (by simp [rank])) (by decide)) (c' := 0) (s' := acc.length) (sg' := true) fun v j ms g1 g2 _ g4 => ?_).weak ?_ ?_
        · obtain ⟨m, rfl, hm⟩ := g4 rfl
          exact (go (.laySigns acc.reverse m) j ms g2 hm (by omega) (.inl (by simp [consN] at g1; omega)) (by simp [rank])).weak (by simp [consN]) (by simp [slack])
        all_goals simp [consN, slack]
    | laySigns acc n =>
      simp only [P]
      have hn : n < ns.length := hp
      obtain ⟨g1, g2⟩ := laySg_len acc n ns hn
      refine ⟨fun _ => ⟨_, rfl⟩, (fun e h => by cases h), fun v j ms h => ?_⟩
      cases h
      exact ⟨by simp [consN], hi, by omega, by simp only [slack]; omega, fun _ => ⟨_, rfl, g2⟩⟩
    | back =>
      simp only [P]
      refine (Good.bind (go .first i ns hi trivial (Nat.le_refl _) (.inr (by simp [rank])) (by decide)) (c' := 0) (s' := 0) (sg' := true) fun v j ms g1 g2 _ g4 => ?_).weak ?_ ?_
      · obtain ⟨m, rfl, hm⟩ := g4 rfl
        exact go (.backL m) j ms g2 hm (by omega) (.inl (by simp [consN] at g1; omega)) (by simp [rank])
      all_goals simp [consN, slack]
    | backL n =>
      simp only [P]
      have hn : n < ns.length := hp
      split
      · rename_i e
        refine (Good.bind (go (.field n) i ns hi (by show nx ts i ≠ []; rw [e]; decide) (Nat.le_refl _) (.inr (by simp [rank])) (by simp [rank])) (c' := 0) (s' := 0) (sg' := true) fun v j ms g1 g2 _ g4 => ?_).weak ?_ ?_
        · obtain ⟨m, rfl, hm⟩ := g4 rfl
          exact go (.backL m) j ms g2 hm (by omega) (.inl (by simp [consN] at g1; omega)) (by simp [rank])
        all_goals simp [consN, slack]
      · split
        · rename_i e
          refine (Good.bind (go (.elem n) i ns hi (by show nx ts i ≠ []; rw [e]; decide) (Nat.le_refl _) (.inr (by simp [rank])) (by simp [rank])) (c' := 0) (s' := 0) (sg' := true) fun v j ms g1 g2 _ g4 => ?_).weak ?_ ?_
          · obtain ⟨m, rfl, hm⟩ := g4 rfl
            exact go (.backL m) j ms g2 hm (by omega) (.inl (by simp [consN] at g1; omega)) (by simp [rank])
          all_goals simp [consN, slack]
        · exact Good.one hi hn
    | field n =>
      simp only [P]
      have h1 := h.more hi hp
      refine Good.shift (d := 1) (Good.want h h1 (by decide) fun _ h2 => Good.lay h2) ?_ ?_
      all_goals simp [consN, slack]
    | elem n =>
      simp only [P]
      have h1 := h.more hi hp
      refine Good.shift (d := 1) (Good.bind (go .expr (i + 1) ns h1 trivial (by omega) (.inl (by omega)) (by decide)) (c' := 1) (s' := 0) (sg' := true) fun v j ms _ g2 _ _ => (Good.want h g2 (by decide) fun _ g3 => Good.lay g3).weak (by omega) (by omega)) ?_ ?_
      all_goals simp [consN, slack]
    | first =>
      simp only [P]
      unfold firstNT
      have nn : ∀ l : List UInt8, l ≠ [] → nx ts i = l → nx ts i ≠ [] := fun l hl e => by rw [e]; exact hl
      by_cases e0 : nx ts i = [110, 117, 109, 98, 101, 114]
      · rw [if_pos e0]; exact go .number i ns hi (nn _ (by decide) e0) (Nat.le_refl _) (.inr (by simp [rank])) (by decide)
      rw [if_neg e0]
      by_cases e1 : nx ts i = [110, 97, 109, 101]
      · rw [if_pos e1]; exact go .nameOrCall i ns hi (nn _ (by decide) e1) (Nat.le_refl _) (.inr (by simp [rank])) (by decide)
      rw [if_neg e1]
      by_cases e2 : nx ts i = [110, 117, 108, 108]
      · rw [if_pos e2]; exact go (.alone 16) i ns hi (nn _ (by decide) e2) (Nat.le_refl _) (.inr (by simp [rank])) (by decide)
      rw [if_neg e2]
      by_cases e3 : nx ts i = [114, 111, 111, 116]
      · rw [if_pos e3]; exact go (.alone 30) i ns hi (nn _ (by decide) e3) (Nat.le_refl _) (.inr (by simp [rank])) (by decide)
      rw [if_neg e3]
      by_cases e4 : nx ts i = [110, 101, 119]
      · rw [if_pos e4]; exact go .made i ns hi (nn _ (by decide) e4) (Nat.le_refl _) (.inr (by simp [rank])) (by decide)
      rw [if_neg e4]
      by_cases e5 : nx ts i = [97, 114, 114]
      · rw [if_pos e5]; exact go (.about 24) i ns hi (nn _ (by decide) e5) (Nat.le_refl _) (.inr (by simp [rank])) (by decide)
      rw [if_neg e5]
      by_cases e6 : nx ts i = [108, 101, 110]
      · rw [if_pos e6]; exact go (.about 25) i ns hi (nn _ (by decide) e6) (Nat.le_refl _) (.inr (by simp [rank])) (by decide)
      rw [if_neg e6]
      by_cases e7 : nx ts i = [105, 110]
      · rw [if_pos e7]; exact go (.empty 26) i ns hi (nn _ (by decide) e7) (Nat.le_refl _) (.inr (by simp [rank])) (by decide)
      rw [if_neg e7]
      by_cases e8 : nx ts i = [105, 109, 103]
      · rw [if_pos e8]; exact go (.about 27) i ns hi (nn _ (by decide) e8) (Nat.le_refl _) (.inr (by simp [rank])) (by decide)
      rw [if_neg e8]
      by_cases e9 : nx ts i = [115, 105, 122, 101]
      · rw [if_pos e9]; exact go (.empty 28) i ns hi (nn _ (by decide) e9) (Nat.le_refl _) (.inr (by simp [rank])) (by decide)
      rw [if_neg e9]
      by_cases e10 : nx ts i = [112, 114, 111, 109, 111, 116, 101]
      · rw [if_pos e10]; exact go (.about 29) i ns hi (nn _ (by decide) e10) (Nat.le_refl _) (.inr (by simp [rank])) (by decide)
      rw [if_neg e10]
      by_cases e11 : nx ts i = [40]
      · rw [if_pos e11]; exact go .brack i ns hi trivial (Nat.le_refl _) (.inr (by simp [rank])) (by decide)
      rw [if_neg e11]
      exact Good.err hi
    | number =>
      simp only [P]
      refine Good.shift (d := 1) (Good.lay (h.more hi hp)) ?_ ?_
      all_goals simp [consN, slack]
    | nameOrCall =>
      simp only [P]
      have h1 := h.more hi hp
      split
      · rename_i e
        refine Good.shift (d := 2) (Good.bind (go (.listed true [41]) (i + 2) ns (h.more h1 (by rw [e]; decide)) (by simp [preN]) (by omega) (.inl (by omega)) (by decide)) (c' := 0) (s' := 1) (sg' := true) fun v j ms _ g2 _ _ => Good.lay g2) ?_ ?_
        all_goals simp [consN, slack]
      · refine Good.shift (d := 1) (Good.lay h1) ?_ ?_
        all_goals simp [consN, slack]
    | made =>
      simp only [P]
      have h1 := h.more hi hp
      refine Good.shift (d := 1) (Good.want h h1 (by decide) fun _ h2 => Good.lay h2) ?_ ?_
      all_goals simp [consN, slack]
    | alone k =>
      simp only [P]
      refine Good.shift (d := 1) (Good.lay (h.more hi hp)) ?_ ?_
      all_goals simp [consN, slack]
    | empty k =>
      simp only [P]
      have h1 := h.more hi hp
      refine Good.shift (d := 1) (Good.want h h1 (by decide) fun _ h2 => Good.want h h2 (by decide) fun _ h3 => Good.lay h3) ?_ ?_
      all_goals simp [consN, slack]
    | about k =>
      simp only [P]
      have h1 := h.more hi hp
      refine Good.shift (d := 1) (Good.bind (go .brack (i + 1) ns h1 trivial (by omega) (.inl (by omega)) (by decide)) (c' := 0) (s' := 1) (sg' := true) fun v j ms _ g2 _ _ => Good.lay g2) ?_ ?_
      all_goals simp [consN, slack]
    | brack =>
      simp only [P]
      refine (Good.want h hi (by decide) fun _ h2 => Good.bind (go .expr (i + 1) ns h2 trivial (by omega) (.inl (by omega)) (by decide)) (c' := 1) (s' := 0) (sg' := true) fun v j ms _ g2 _ g4 => (Good.want h g2 (by decide) fun _ g3 => Good.same g3 g4).weak (by omega) (by omega)).weak ?_ ?_
      all_goals simp [consN, slack]
    | listed thing closing =>
      simp only [P]
      have hc : closing ≠ [] := hp
      split
      · rename_i e
        refine Good.shift (d := 1) (Good.same (h.more hi (by rw [e]; exact hc)) (fun e => by cases e)) ?_ ?_
        all_goals simp [consN, slack]
      · cases thing
        · refine (Good.bind (go .name i ns hi trivial (Nat.le_refl _) (.inr (by simp [rank])) (by decide)) (c' := 1) (s' := 0) (sg' := false) fun v j ms g1 g2 _ g4 => go (.listedL false closing [hd v]) j ms g2 hc (by omega) (.inl (by simp [consN] at g1; omega)) (by simp [rank])).weak ?_ ?_
          all_goals simp [consN, slack]
        · refine (Good.bind (go .expr i ns hi trivial (Nat.le_refl _) (.inr (by simp [rank])) (by decide)) (c' := 1) (s' := 0) (sg' := false) fun v j ms g1 g2 _ g4 => go (.listedL true closing [hd v]) j ms g2 hc (by omega) (.inl (by simp [consN] at g1; omega)) (by simp [rank])).weak ?_ ?_
          all_goals simp [consN, slack]
    | listedL thing closing acc =>
      simp only [P]
      have hc : closing ≠ [] := hp
      split
      · rename_i e
        have h1 := h.more hi (by rw [e]; decide)
        cases thing
        · refine Good.shift (d := 1) (Good.bind (go .name (i + 1) ns h1 trivial (by omega) (.inl (by omega)) (by decide)) (c' := 1) (s' := 0) (sg' := false) fun v j ms g1 g2 _ g4 => go (.listedL false closing (acc ++ [hd v])) j ms g2 hc (by omega) (.inl (by omega)) (by simp [rank])) ?_ ?_
          all_goals simp [consN, slack]
        · refine Good.shift (d := 1) (Good.bind (go .expr (i + 1) ns h1 trivial (by omega) (.inl (by omega)) (by decide)) (c' := 1) (s' := 0) (sg' := false) fun v j ms g1 g2 _ g4 => go (.listedL true closing (acc ++ [hd v])) j ms g2 hc (by omega) (.inl (by omega)) (by simp [rank])) ?_ ?_
          all_goals simp [consN, slack]
      · refine (Good.want h hi hc fun _ g3 => Good.same g3 (fun e => by cases e)).weak ?_ ?_
        all_goals simp [consN, slack]
end Go.Proofs.YtnkjgggbiokfbaaGreatDoor
namespace Go.Proofs.YtnkjgggbiokfbaaGreatDoor
open Go.RowKit
set_option linter.unusedVariables false
set_option linter.unusedSimpArgs false

def fnV (f : Nat) : Value := .func (.func f) #[] #[]
def EsR : List (List UInt8 × Nat) → Nat → List MapEntry
  | [], _ => []
  | x :: r, b => ⟨.string ⟨x.1.toArray⟩, fnV x.2, b⟩ :: EsR r (b + 1)
theorem EsR_snoc : ∀ (l : List (List UInt8 × Nat)) (x : List UInt8 × Nat) (b : Nat), EsR (l ++ [x]) b = EsR l b ++ [⟨.string ⟨x.1.toArray⟩, fnV x.2, b + l.length⟩]
  | [], x, b => rfl
  | y :: l, x, b => by
    simp only [List.cons_append, EsR, EsR_snoc l x (b + 1), List.length_cons]
    rw [show b + 1 + l.length = b + (l.length + 1) by omega]
theorem str_beq (a b : List UInt8) : ((⟨a.toArray⟩ : ByteArray) == ⟨b.toArray⟩) = (a == b) := by
  rw [Bool.eq_iff_iff, MapKept.bytes_beq]
  simp
theorem findR_none (k : List UInt8) : ∀ (l : List (List UInt8 × Nat)) (b i : Nat), l.lookup k = none → Instr.findNow .string (.string ⟨k.toArray⟩) (EsR l b) i = some none
  | [], b, i, h => rfl
  | x :: l, b, i, h => by
    obtain ⟨a, v⟩ := x
    rw [List.lookup_cons] at h
    cases hk : (k == a) with
    | true => rw [hk] at h; cases h
    | false =>
      rw [hk] at h
      simp only [EsR, Instr.findNow, Instr.sameNow, str_beq, hk]
      exact findR_none k l (b + 1) (i + 1) h
theorem findR_some (k : List UInt8) (f : Nat) : ∀ (l : List (List UInt8 × Nat)) (b i : Nat), l.lookup k = some f → ∃ j, Instr.findNow .string (.string ⟨k.toArray⟩) (EsR l b) i = some (some (j, fnV f))
  | [], b, i, h => by cases h
  | x :: l, b, i, h => by
    obtain ⟨a, v⟩ := x
    rw [List.lookup_cons] at h
    cases hk : (k == a) with
    | true =>
      rw [hk] at h
      cases h
      exact ⟨i, by simp only [EsR, Instr.findNow, Instr.sameNow, str_beq, hk]⟩
    | false =>
      rw [hk] at h
      obtain ⟨j, hj⟩ := findR_some k f l (b + 1) (i + 1) h
      exact ⟨j, by simp only [EsR, Instr.findNow, Instr.sameNow, str_beq, hk]; exact hj⟩
theorem under9' : Tryz.prog.underlying 9 = some .string := by kernel_rfl
theorem under75 : Tryz.prog.underlying 79 = some (.map 9 145) := by kernel_rfl
theorem zero118 (w : World) : (zeroValue 145).run Tryz.prog w = .ok .nilFunc w := by kernel_rfl
theorem check9 (e : Bool) (v : ByteArray) (w : World) : (Instr.checkKey e 10000 9 (.string v)).run Tryz.prog w = .ok () w := by
  have h : ∀ n, (Instr.checkKey e (n + 1) 9 (.string v)).run Tryz.prog w = .ok () w := by
    intro n
    simp [Instr.checkKey, run_underlying under9']
  exact h 9999
theorem alloc_set (w : World) (o o' : Obj) : { w.alloc o with heap := (w.alloc o).heap.setIfInBounds w.heap.size o' } = w.alloc o' := by
  simp only [World.alloc]
  congr 1
  apply Array.ext'
  simp [Array.setIfInBounds, Array.toList_push]
theorem insR (w : World) (l : List (List UInt8 × Nat)) (x : List UInt8 × Nat) (h : l.lookup x.1 = none) :
    (Instr.mapUpdate 79 (.map (some w.heap.size)) (.string ⟨x.1.toArray⟩) (fnV x.2)).run Tryz.prog (w.alloc (.map (EsR l 0).toArray l.length)) = .ok () (w.alloc (.map (EsR (l ++ [x]) 0).toArray (l.length + 1))) := by
  have hf := findR_none x.1 l 0 0 h
  have hb : (w.alloc (.map (EsR l 0).toArray l.length)).heap[w.heap.size]? = some (.map (EsR l 0).toArray l.length) := heap_alloc_new w _
  have hset := MapKept.run_setObj_map (P := Tryz.prog) (.map ((EsR l 0).toArray.push ⟨.string ⟨x.1.toArray⟩, fnV x.2, l.length⟩) (l.length + 1)) hb
  rw [alloc_set] at hset
  simp only [Instr.mapUpdate, run_underlying under75, Sem.run_bind, Result.andThen, MapKept.run_getObj_map hb, check9, Instr.findKey, run_underlying under9', hf, EsR_snoc, Sem.run_pure, hset]
  simp

def declM : List (List UInt8 × Nat) := [([114, 101, 99], 78), ([102, 110], 79)]
def stmtM : List (List UInt8 × Nat) := [([108, 101, 116], 80), ([105, 102], 81), ([119, 104, 105, 108, 101], 82), ([114, 101, 116, 117, 114, 110], 83), ([111, 117, 116], 84), ([115, 116, 111, 112], 85), ([109, 101, 114, 103, 101], 86)]
def firstM : List (List UInt8 × Nat) := [([110, 117, 109, 98, 101, 114], 87), ([110, 97, 109, 101], 88), ([110, 117, 108, 108], 89), ([114, 111, 111, 116], 90), ([110, 101, 119], 91), ([97, 114, 114], 92), ([108, 101, 110], 93), ([105, 110], 94), ([105, 109, 103], 95), ([115, 105, 122, 101], 96), ([112, 114, 111, 109, 111, 116, 101], 97), ([40], 98)]

def RM (w : World) (g : Nat) (l : List (List UInt8 × Nat)) : Prop := w.heap[g]? = some (.map (EsR l 0).toArray l.length)
theorem RM.fr {w w' : World} {g : Nat} {l : List (List UInt8 × Nat)} {S : List Nat} (h : RM w g l) (f : Fr S w w') (hg : g ∉ S) : RM w' g l :=
  (f.block g (Array.getElem?_eq_some_iff.1 h).1 hg).trans h
theorem RM.none {w : World} {g : Nat} {l : List (List UInt8 × Nat)} (h : RM w g l) {k : List UInt8} (hk : l.lookup k = none) : (Instr.lookup 79 (.map (some g)) (.string ⟨k.toArray⟩) true).run Tryz.prog w = .ok (.tuple #[.nilFunc, .bool false]) w := by
  have hf := findR_none k l 0 0 hk
  unfold RM at h
  simp [Instr.lookup, run_underlying under75, MapKept.run_getObj_map h, check9, Instr.findKey, run_underlying under9', hf, zero118, Result.andThen]
theorem RM.some {w : World} {g : Nat} {l : List (List UInt8 × Nat)} (h : RM w g l) {k : List UInt8} {f : Nat} (hk : l.lookup k = some f) : (Instr.lookup 79 (.map (some g)) (.string ⟨k.toArray⟩) true).run Tryz.prog w = .ok (.tuple #[.func (.func f) #[] #[], .bool true]) w := by
  obtain ⟨j, hf⟩ := findR_some k f l 0 0 hk
  unfold RM at h
  simp [Instr.lookup, run_underlying under75, MapKept.run_getObj_map h, check9, Instr.findKey, run_underlying under9', hf, fnV, Result.andThen]
end Go.Proofs.YtnkjgggbiokfbaaGreatDoor
