/-
  The reckoning as a whole, by the program: the least sets; conditions: the function lies as told, the tables as the program's text lays them.
-/
import Derived.Test.YtajdnakpljgkpaaDoorLvU
namespace Go.Proofs.YtajdnakpljgkpaaDoor
open Go.RowKit
set_option linter.unusedVariables false
set_option linter.unusedSimpArgs false

theorem RK.from_ {w : World} {bp br base N : Nat} {P : Nat → Pl} {wv : Value} {Wt : List Int} (h : RK w bp br base N P wv Wt) {k : Nat} (hk : k < N) {w1 : World} {fa : Option Addr} {fc : Nat} {q : Int} (f : Fr (frV (P k)).ownBlock.toList w w1) (ho : OR w1 base (.slice fa ((P k).fr.length + 1) fc) ((P k).fr ++ [q])) (hv : ∀ g, (Value.slice fa ((P k).fr.length + 1) fc).ownBlock = some g → (frV (P k)).ownBlock = some g ∨ w.heap.size ≤ g) :
    RK (w1.setCell ⟨bp, k * 19 + 17, none⟩ (.slice fa ((P k).fr.length + 1) fc)) bp br base N (upd P k { P k with fa := fa, fc := fc, fr := (P k).fr ++ [q] }) wv Wt ∧ Kp bp br base w (w1.setCell ⟨bp, k * 19 + 17, none⟩ (.slice fa ((P k).fr.length + 1) fc)) := by
  have hlw := (h.fo k hk).lt
  have hS : ∀ g, g ∈ (frV (P k)).ownBlock.toList → base ≤ g := fun g hg => (hlw g (by simpa using hg)).1
  have hnb : ∀ g, g < base → g ∉ (frV (P k)).ownBlock.toList := fun g hg hm => by have := hS g hm; omega
  have f2 : Fr [bp] w1 (w1.setCell ⟨bp, k * 19 + 17, none⟩ (.slice fa ((P k).fr.length + 1) fc)) := (Fr.refl _ _).setCell (.inl (by simp)) _
  have row1 := h.row.of_block (f.block _ h.row.lt (hnb _ h.ltp))
  have hlen : (Value.slice fa ((P k).fr.length + 1) fc) = .slice fa ((P k).fr ++ [q]).length fc := by simp
  have efr : ∀ i, i ≠ k → upd P k { P k with fa := fa, fc := fc, fr := (P k).fr ++ [q] } i = P i := fun i hi => upd_ne _ _ hi
  have eV : frV (upd P k { P k with fa := fa, fc := fc, fr := (P k).fr ++ [q] } k) = .slice fa ((P k).fr.length + 1) fc := by rw [upd_at]; simp [frV]
  refine ⟨⟨?_, ?_, ?_, ?_, ?_, ?_, h.ltp, h.ltr, h.ne, ?_⟩, ?_⟩
  · have := (row1.set (k * 19 + 17) (.slice fa ((P k).fr.length + 1) fc)).congr (g := plc (upd P k { P k with fa := fa, fc := fc, fr := (P k).fr ++ [q] })) (fun j hj => by
      rw [hlen]; exact plc_set_fr P k fa fc ((P k).fr ++ [q]) N j hj)
    exact this
  · exact f2.at (f.at h.rc (hnb _ h.ltr)) (by simp; exact fun e => h.ne e.symm)
  · have o1 : OR w1 base wv Wt := own_fr h.wo f (fun g hg hm => by
      simp at hm
      exact h.dw k g hk hm hg)
    exact o1.fr f2 (by simp; exact h.ltp)
  · intro i hi
    by_cases e : i = k
    · subst e
      rw [eV, upd_at]
      exact ho.fr f2 (by simp; exact h.ltp)
    · rw [efr i e]
      have o1 : OR w1 base (frV (P i)) (P i).fr := own_fr (h.fo i hi) f (fun g hg hm => by
        simp at hm
        exact h.dd i k g hi hk e hg hm)
      exact o1.fr f2 (by simp; exact h.ltp)
  · intro i g hi hg hc
    by_cases e : i = k
    · subst e
      rw [eV] at hg
      rcases hv g hg with h1 | h1
      · exact h.dw i g hi h1 hc
      · have := (h.wo.lt g hc).2
        omega
    · rw [efr i e] at hg
      exact h.dw i g hi hg hc
  · intro i j g hi hj hij hg hc
    by_cases e : i = k
    · subst e
      rw [eV] at hg
      rw [efr j (fun e2 => hij e2.symm)] at hc
      rcases hv g hg with h1 | h1
      · exact h.dd i j g hi hj hij h1 hc
      · have := ((h.fo j hj).lt g hc).2
        omega
    · rw [efr i e] at hg
      by_cases e2 : j = k
      · subst e2
        rw [eV] at hc
        rcases hv g hc with h1 | h1
        · exact h.dd i j g hi hj hij hg h1
        · have := ((h.fo i hi).lt g hg).2
          omega
      · rw [efr j e2] at hc
        exact h.dd i j g hi hj hij hg hc
  · have := f.size; have := f2.size; have := h.le; omega
  · exact (f.kp h.le (fun g hg => .inr (.inr (hS g hg)))).trans (f2.kp (Nat.le_trans h.le f.size) (by simp))

/-- A place as it is made. -/
def p0 : Pl := ⟨fun _ => 0, 0, none, 0, [], false⟩
def z19 : Array Value := #[.int .u64 0, .int .u64 0, .int .u64 0, .int .u64 0, .int .u64 0, .int .u64 0, .int .u64 0, .int .u64 0, .int .u64 0, .int .u64 0, .int .u64 0, .int .u64 0, .int .u64 0, .int .u64 0, .int .u64 0, .int .u64 0, .int .i64 0, .slice none 0 0, .bool false]
theorem info69 : (Tryd.prog.info? 69).map (fun i => (i.zero, i.size, i.bytes)) = some (some (.agg z19), 19, 168) := by kernel_rfl
theorem under63 : Tryd.prog.underlying 63 = some (.slice 69) := by kernel_rfl
def plM (n : Nat) : Array Value := madeCells z19 (n * 19)
theorem make_pl (w : World) (n : Nat) (h : n ≤ 2000000) : (Instr.makeSlice 63 (.int .i64 n) (.int .i64 n)).run Tryd.prog w = .ok (.slice (some ⟨w.heap.size, 0, none⟩) n n) (w.alloc (.cells (plM n) 69)) := by
  obtain ⟨i, hi, hz, hs, hb⟩ := info_parts info69
  have := run_make (P := Tryd.prog) w 63 69 i _ under63 hi hz .i64 .i64 n n (by omega) (Int.le_refl _) (by rw [hb]; omega) (by omega)
  rw [this, hs]
  simp [plM, Value.cells]
theorem z19_at : ∀ j, j < 19 → z19[j]! = plc (fun _ => p0) j := by
  intro j hj
  have : j = 0 ∨ j = 1 ∨ j = 2 ∨ j = 3 ∨ j = 4 ∨ j = 5 ∨ j = 6 ∨ j = 7 ∨ j = 8 ∨ j = 9 ∨ j = 10 ∨ j = 11 ∨ j = 12 ∨ j = 13 ∨ j = 14 ∨ j = 15 ∨ j = 16 ∨ j = 17 ∨ j = 18 := by omega
  rcases this with rfl | rfl | rfl | rfl | rfl | rfl | rfl | rfl | rfl | rfl | rfl | rfl | rfl | rfl | rfl | rfl | rfl | rfl | rfl <;> rfl
theorem plc_mod (p : Pl) (k : Nat) : plc (fun _ => p) k = plc (fun _ => p) (k % 19) := by
  unfold plc
  rw [Nat.mod_mod]
theorem row_pl (w : World) (n : Nat) : (w.alloc (.cells (plM n) 69)).rowIs w.heap.size 69 (n * 19) (plc (fun _ => p0)) := by
  have h := World.rowIs_alloc w (plM n) 69 (plc (fun _ => p0)) (fun i hi => by
    unfold plM madeCells at hi ⊢
    simp at hi
    have h19 : z19.size = 19 := rfl
    simp only [Array.getElem?_map, Array.getElem?_range, hi, h19]
    simp
    rw [plc_mod, ← z19_at _ (Nat.mod_lt _ (by decide))])
  rw [show (plM n).size = n * 19 from size_madeCells _ _] at h
  exact h
end Go.Proofs.YtajdnakpljgkpaaDoor
