/-
  Places and who waits, in memory; to begin to wait, and to be taken; conditions: they lie as told.
-/
import Derived.Test.YtajdnakpljgkpaaDoorLvQ
import Derived.Deep.LoopGhost
namespace Go.Proofs.YtajdnakpljgkpaaDoor
open Go.RowKit
set_option linter.unusedVariables false
set_option linter.unusedSimpArgs false

/-- The cells of places in a row. -/
def plc (P : Nat → Pl) (k : Nat) : Value :=
  if k % 19 < 16 then .int .u64 ((P (k / 19)).s (k % 19) : Nat) else if k % 19 = 16 then .int .i64 (P (k / 19)).wr else if k % 19 = 17 then .slice (P (k / 19)).fa (P (k / 19)).fr.length (P (k / 19)).fc else .bool (P (k / 19)).wt
def frV (p : Pl) : Value := .slice p.fa p.fr.length p.fc
theorem plc_s (P : Nat → Pl) (i j : Nat) (hj : j < 16) : plc P (i * 19 + j) = .int .u64 ((P i).s j : Nat) := by
  unfold plc
  rw [show (i * 19 + j) % 19 = j by omega, show (i * 19 + j) / 19 = i by omega, if_pos hj]
theorem plc_wr (P : Nat → Pl) (i : Nat) : plc P (i * 19 + 16) = .int .i64 (P i).wr := by
  unfold plc
  rw [show (i * 19 + 16) % 19 = 16 by omega, show (i * 19 + 16) / 19 = i by omega]; rfl
theorem plc_fr (P : Nat → Pl) (i : Nat) : plc P (i * 19 + 17) = .slice (P i).fa (P i).fr.length (P i).fc := by
  unfold plc
  rw [show (i * 19 + 17) % 19 = 17 by omega, show (i * 19 + 17) / 19 = i by omega]; rfl
theorem plc_wt (P : Nat → Pl) (i : Nat) : plc P (i * 19 + 18) = .bool (P i).wt := by
  unfold plc
  rw [show (i * 19 + 18) % 19 = 18 by omega, show (i * 19 + 18) / 19 = i by omega]; rfl
theorem plc_cases (P Q : Nat → Pl) (f : Nat → Value) (n : Nat) (hs : ∀ i j, i < n → j < 16 → f (i * 19 + j) = .int .u64 ((Q i).s j : Nat)) (hw : ∀ i, i < n → f (i * 19 + 16) = .int .i64 (Q i).wr) (hf : ∀ i, i < n → f (i * 19 + 17) = .slice (Q i).fa (Q i).fr.length (Q i).fc) (ht : ∀ i, i < n → f (i * 19 + 18) = .bool (Q i).wt) : ∀ k, k < n * 19 → f k = plc Q k := by
  intro k hk
  obtain ⟨i, j, hj, rfl⟩ : ∃ i j, j < 19 ∧ k = i * 19 + j := ⟨k / 19, k % 19, by omega, by omega⟩
  have hi : i < n := by omega
  by_cases h1 : j < 16
  · rw [plc_s _ _ _ h1]; exact hs i j hi h1
  · have : j = 16 ∨ j = 17 ∨ j = 18 := by omega
    rcases this with rfl | rfl | rfl
    · rw [plc_wr]; exact hw i hi
    · rw [plc_fr]; exact hf i hi
    · rw [plc_wt]; exact ht i hi
/-- A cell of a place is laid: what the places are then. -/
theorem plc_set_wt (P : Nat → Pl) (n : Nat) (b : Bool) (N : Nat) : ∀ k, k < N * 19 → (if k = n * 19 + 18 then Value.bool b else plc P k) = plc (upd P n { P n with wt := b }) k := by
  refine plc_cases P _ _ N ?_ ?_ ?_ ?_
  · intro i j hi hj
    rw [if_neg (by omega), plc_s _ _ _ hj]
    by_cases e : i = n
    · subst e; rw [upd_at]
    · rw [upd_ne _ _ e]
  · intro i hi
    rw [if_neg (by omega), plc_wr]
    by_cases e : i = n
    · subst e; rw [upd_at]
    · rw [upd_ne _ _ e]
  · intro i hi
    rw [if_neg (by omega), plc_fr]
    by_cases e : i = n
    · subst e; rw [upd_at]
    · rw [upd_ne _ _ e]
  · intro i hi
    by_cases e : i = n
    · subst e; rw [if_pos rfl, upd_at]
    · rw [if_neg (by omega), plc_wt, upd_ne _ _ e]
theorem plc_set_wr (P : Nat → Pl) (n : Nat) (b : Int) (N : Nat) : ∀ k, k < N * 19 → (if k = n * 19 + 16 then Value.int .i64 b else plc P k) = plc (upd P n { P n with wr := b }) k := by
  refine plc_cases P _ _ N ?_ ?_ ?_ ?_
  · intro i j hi hj
    rw [if_neg (by omega), plc_s _ _ _ hj]
    by_cases e : i = n
    · subst e; rw [upd_at]
    · rw [upd_ne _ _ e]
  · intro i hi
    by_cases e : i = n
    · subst e; rw [if_pos rfl, upd_at]
    · rw [if_neg (by omega), plc_wr, upd_ne _ _ e]
  · intro i hi
    rw [if_neg (by omega), plc_fr]
    by_cases e : i = n
    · subst e; rw [upd_at]
    · rw [upd_ne _ _ e]
  · intro i hi
    rw [if_neg (by omega), plc_wt]
    by_cases e : i = n
    · subst e; rw [upd_at]
    · rw [upd_ne _ _ e]
theorem plc_set_fr (P : Nat → Pl) (n : Nat) (fa : Option Addr) (fc : Nat) (fr : List Int) (N : Nat) : ∀ k, k < N * 19 → (if k = n * 19 + 17 then Value.slice fa fr.length fc else plc P k) = plc (upd P n { P n with fa := fa, fc := fc, fr := fr }) k := by
  refine plc_cases P _ _ N ?_ ?_ ?_ ?_
  · intro i j hi hj
    rw [if_neg (by omega), plc_s _ _ _ hj]
    by_cases e : i = n
    · subst e; rw [upd_at]
    · rw [upd_ne _ _ e]
  · intro i hi
    rw [if_neg (by omega), plc_wr]
    by_cases e : i = n
    · subst e; rw [upd_at]
    · rw [upd_ne _ _ e]
  · intro i hi
    by_cases e : i = n
    · subst e; rw [if_pos rfl, upd_at]
    · rw [if_neg (by omega), plc_fr, upd_ne _ _ e]
  · intro i hi
    rw [if_neg (by omega), plc_wt]
    by_cases e : i = n
    · subst e; rw [upd_at]
    · rw [upd_ne _ _ e]
theorem plc_set_s (P : Nat → Pl) (n : Nat) (s : Nat → Nat) (N : Nat) : ∀ k, k < N * 19 → (if n * 19 ≤ k ∧ k < n * 19 + 16 then Value.int .u64 (s (k - n * 19) : Nat) else plc P k) = plc (upd P n { P n with s := s }) k := by
  refine plc_cases P _ _ N ?_ ?_ ?_ ?_
  · intro i j hi hj
    by_cases e : i = n
    · subst e; rw [if_pos (by omega), upd_at, show i * 19 + j - i * 19 = j by omega]
    · rw [if_neg (by omega), plc_s _ _ _ hj, upd_ne _ _ e]
  · intro i hi
    rw [if_neg (by omega), plc_wr]
    by_cases e : i = n
    · subst e; rw [upd_at]
    · rw [upd_ne _ _ e]
  · intro i hi
    rw [if_neg (by omega), plc_fr]
    by_cases e : i = n
    · subst e; rw [upd_at]
    · rw [upd_ne _ _ e]
  · intro i hi
    rw [if_neg (by omega), plc_wt]
    by_cases e : i = n
    · subst e; rw [upd_at]
    · rw [upd_ne _ _ e]

/-- A reckoning in memory. -/
structure RK (w : World) (bp br base N : Nat) (P : Nat → Pl) (wv : Value) (Wt : List Int) : Prop where
  row : w.rowIs bp 69 (N * 19) (plc P)
  rc : w.heap[br]? = some (.cells #[.slice (some ⟨bp, 0, none⟩) N N, wv] 100 (0, 0))
  wo : OR w base wv Wt
  fo : ∀ i, i < N → OR w base (frV (P i)) (P i).fr
  dw : ∀ i k, i < N → (frV (P i)).ownBlock = some k → wv.ownBlock ≠ some k
  dd : ∀ i j k, i < N → j < N → i ≠ j → (frV (P i)).ownBlock = some k → (frV (P j)).ownBlock ≠ some k
  ltp : bp < base
  ltr : br < base
  ne : bp ≠ br
  le : base ≤ w.heap.size
/-- All that lay ahead of a base is as it was, but for two blocks. -/
structure Kp (bp br base : Nat) (w w' : World) : Prop where
  os : w'.os = w.os
  tape : w'.tape = w.tape
  output : w'.output = w.output
  size : w.heap.size ≤ w'.heap.size
  block : ∀ k, k < base → k ≠ bp → k ≠ br → w'.heap[k]? = w.heap[k]?
theorem Kp.refl (bp br base : Nat) (w : World) : Kp bp br base w w := ⟨rfl, rfl, rfl, Nat.le_refl _, fun _ _ _ _ => rfl⟩
theorem Kp.trans {bp br base : Nat} {a b c : World} (h : Kp bp br base a b) (k : Kp bp br base b c) : Kp bp br base a c :=
  ⟨k.os.trans h.os, k.tape.trans h.tape, k.output.trans h.output, Nat.le_trans h.size k.size, fun i h1 h2 h3 => (k.block i h1 h2 h3).trans (h.block i h1 h2 h3)⟩
theorem Fr.kp {S : List Nat} {a b : World} {bp br base : Nat} (f : Fr S a b) (hb : base ≤ a.heap.size) (hS : ∀ k, k ∈ S → k = bp ∨ k = br ∨ base ≤ k) : Kp bp br base a b :=
  ⟨f.os, f.tape, f.output, f.size, fun k h1 h2 h3 => f.block k (by omega) (fun hm => by rcases hS k hm with h | h | h; exact h2 h; exact h3 h; omega)⟩
theorem Kp.fr {bp br base : Nat} {w0 a b : World} (h : Fr [] w0 a) (k : Kp bp br base a b) (hp : w0.heap.size ≤ bp) (hr : w0.heap.size ≤ br) (hb : w0.heap.size ≤ base) : Fr [] w0 b :=
  ⟨k.os.trans h.os, k.tape.trans h.tape, k.output.trans h.output, Nat.le_trans h.size k.size, fun i hi hS => (k.block i (by omega) (by omega) (by omega)).trans (h.block i hi hS)⟩
theorem Kp.at {bp br base : Nat} {a b : World} {k : Nat} {o : Obj} (f : Kp bp br base a b) (h : a.heap[k]? = some o) (h1 : k < base) (h2 : k ≠ bp) (h3 : k ≠ br) : b.heap[k]? = some o := (f.block k h1 h2 h3).trans h

section
variable {w w' : World} {bp br base N : Nat} {P : Nat → Pl} {wv : Value} {Wt : List Int}
theorem RK.fr (h : RK w bp br base N P wv Wt) (f : Fr [] w w') : RK w' bp br base N P wv Wt :=
  ⟨h.row.of_block (f.block _ h.row.lt (by simp)), f.at h.rc (by simp), h.wo.fr f (by simp), fun i hi => (h.fo i hi).fr f (by simp), h.dw, h.dd, h.ltp, h.ltr, h.ne, Nat.le_trans h.le f.size⟩
/-- Cells of the row of places change. -/
theorem RK.put (h : RK w bp br base N P wv Wt) {Q : Nat → Pl} (f : Fr [bp] w w') (hr : w'.rowIs bp 69 (N * 19) (plc Q)) (hf : ∀ i, i < N → frV (Q i) = frV (P i) ∧ (Q i).fr = (P i).fr) : RK w' bp br base N Q wv Wt :=
  ⟨hr, f.at h.rc (by simp; exact fun e => h.ne e.symm), h.wo.fr f (by simp; exact h.ltp), fun i hi => by rw [(hf i hi).1, (hf i hi).2]; exact (h.fo i hi).fr f (by simp; exact h.ltp), fun i k hi => by rw [(hf i hi).1]; exact h.dw i k hi, fun i j k hi hj => by rw [(hf i hi).1, (hf j hj).1]; exact h.dd i j k hi hj, h.ltp, h.ltr, h.ne, Nat.le_trans h.le f.size⟩
theorem RK.wt (h : RK w bp br base N P wv Wt) {i : Nat} (hi : i < N) : w.cell? ⟨bp, i * 19 + 18, none⟩ = some (.bool (P i).wt) := by rw [h.row.cell (by omega), plc_wt]
theorem RK.frc (h : RK w bp br base N P wv Wt) {i : Nat} (hi : i < N) : w.cell? ⟨bp, i * 19 + 17, none⟩ = some (.slice (P i).fa (P i).fr.length (P i).fc) := by rw [h.row.cell (by omega), plc_fr]
theorem RK.wrc (h : RK w bp br base N P wv Wt) {i : Nat} (hi : i < N) : w.cell? ⟨bp, i * 19 + 16, none⟩ = some (.int .i64 (P i).wr) := by rw [h.row.cell (by omega), plc_wr]
theorem RK.set_wt (h : RK w bp br base N P wv Wt) (n : Nat) (b : Bool) : RK (w.setCell ⟨bp, n * 19 + 18, none⟩ (.bool b)) bp br base N (upd P n { P n with wt := b }) wv Wt := by
  refine h.put ((Fr.refl _ _).setCell (.inl (by simp)) _) ((h.row.set _ _).congr (plc_set_wt P n b N)) ?_
  intro i hi
  by_cases e : i = n
  · subst e; rw [upd_at]; exact ⟨rfl, rfl⟩
  · rw [upd_ne _ _ e]; exact ⟨rfl, rfl⟩
theorem RK.set_wr (h : RK w bp br base N P wv Wt) (n : Nat) (b : Int) : RK (w.setCell ⟨bp, n * 19 + 16, none⟩ (.int .i64 b)) bp br base N (upd P n { P n with wr := b }) wv Wt := by
  refine h.put ((Fr.refl _ _).setCell (.inl (by simp)) _) ((h.row.set _ _).congr (plc_set_wr P n b N)) ?_
  intro i hi
  by_cases e : i = n
  · subst e; rw [upd_at]; exact ⟨rfl, rfl⟩
  · rw [upd_ne _ _ e]; exact ⟨rfl, rfl⟩
/-- The list of those that wait changes: grown where it lay, or laid anew. -/
theorem RK.wait (h : RK w bp br base N P wv Wt) {w1 : World} {v : Value} {W2 : List Int} (f : Fr wv.ownBlock.toList w w1) (ho : OR w1 base v W2) (hv : ∀ k, v.ownBlock = some k → wv.ownBlock = some k ∨ w.heap.size ≤ k) :
    RK (w1.setCell ⟨br, 1, none⟩ v) bp br base N P v W2 ∧ Kp bp br base w (w1.setCell ⟨br, 1, none⟩ v) := by
  have hlw := h.wo.lt
  have hS : ∀ k, k ∈ wv.ownBlock.toList → base ≤ k := fun k hk => (hlw k (by simpa using hk)).1
  have hnb : ∀ k, k < base → k ∉ wv.ownBlock.toList := fun k hk hm => by have := hS k hm; omega
  have f2 : Fr [br] w1 (w1.setCell ⟨br, 1, none⟩ v) := (Fr.refl _ _).setCell (.inl (by simp)) _
  have rec1 := f.at h.rc (hnb _ h.ltr)
  refine ⟨⟨?_, ?_, ho.fr f2 (by simp; exact h.ltr), ?_, ?_, h.dd, h.ltp, h.ltr, h.ne, ?_⟩, ?_⟩
  · refine (h.row.of_block (f.block _ h.row.lt (hnb _ h.ltp))).of_block (f2.block _ ?_ (by simp; exact h.ne))
    exact Nat.lt_of_lt_of_le h.row.lt f.size
  · rw [set_at rec1 (by simp)]; rfl
  · intro i hi
    have o1 : OR w1 base (frV (P i)) (P i).fr := own_fr (h.fo i hi) f (fun k hk hm => by
      have := h.dw i k hi hk
      simp at hm
      exact this hm)
    exact o1.fr f2 (by simp; exact h.ltr)
  · intro i k hi hk hc
    rcases hv k hc with h1 | h1
    · exact h.dw i k hi hk h1
    · have := ((h.fo i hi).lt k hk).2
      omega
  · have := f.size; have := f2.size; have := h.le; omega
  · exact (f.kp h.le (fun k hk => .inr (.inr (hS k hk)))).trans (f2.kp (Nat.le_trans h.le f.size) (by simp))
end
end Go.Proofs.YtajdnakpljgkpaaDoor
