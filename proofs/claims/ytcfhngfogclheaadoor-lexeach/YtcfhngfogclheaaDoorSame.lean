/-
  Lists of tokens that are alike are told to be; no condition.
-/
import Derived.Test.YtcfhngfogclheaaDoorLexX
import Derived.Deep.RegionHeld3
namespace Go.Proofs.YtcfhngfogclheaaDoor
open Go.RowKit

/-- Tokens lie from an address on. -/
def Lt (w : World) (g o : Nat) (ts : List Tok) : Prop := ∀ j u, (flatT ts)[j]? = some u → w.cell? ⟨g, o + j, none⟩ = some u
theorem flatT_at (ts : List Tok) (i : Nat) (t : Tok) (h : ts[i]? = some t) (j : Nat) (hj : j < 5) : (flatT ts)[i * 5 + j]? = (tokA t)[j]? := by
  induction ts generalizing i with
  | nil => simp at h
  | cons x r ih =>
    cases i with
    | zero =>
      simp at h
      subst h
      have hl : (tokA x).toList.length = 5 := rfl
      simp only [flatT, Nat.zero_mul, Nat.zero_add]
      rw [List.getElem?_append_left (by omega), Array.getElem?_toList]
    | succ i =>
      have hl : (tokA x).toList.length = 5 := rfl
      simp only [flatT]
      rw [List.getElem?_append_right (by omega), hl, show (i + 1) * 5 + j - 5 = i * 5 + j from by omega]
      exact ih i (by simpa using h)

set_option maxRecDepth 100000 in
set_option maxHeartbeats 1000000 in
theorem same_any (w : World) (a1 a2 : Option Addr) (g1 g2 o1 o2 n c1 c2 : Nat) (ts : List Tok) (hn : ts.length = n) (h1 : 0 < n → a1 = some ⟨g1, o1, none⟩) (h2 : 0 < n → a2 = some ⟨g2, o2, none⟩) (l1 : Lt w g1 o1 ts) (l2 : Lt w g2 o2 ts) (hmax : n ≤ 1000000) :
    Calls Tryd.prog 12 #[.slice a1 n c1, .slice a2 n c2] w fun e w' => e = .returned (.bool true) ∧ Fr [] w w' := by
  have hmx : (n : Int) ≤ 1000000 := by omega
  have HMX : Hid (n ≤ 1000000) := hmax
  clear hmax
  go_enter Tryd.func12, Tryd.ntmps12
  go_wp2
  go_loopg [13] n (fun h j wr => ∃ k : Nat, k + h = n ∧ j = .int .i64 k ∧ (∃ m, wr = w.drewN m))
  case atStart => exact ⟨0, by omega, rfl, ⟨0, rfl⟩⟩
  case round =>
    obtain ⟨k, hkn, rfl, ⟨m, hwr⟩⟩ := hrel
    cases gk with
    | zero =>
      have hlt : ¬ (k : Int) < n := by omega
      have F : Fr [] w wr := by rw [hwr]; exact (Fr.refl _ _).drewN m
      clear hwr
      go_wp2
      go_ret
      exact ⟨rfl, F⟩
    | succ h =>
      have hlt : (k : Int) < n := by omega
      have hkn' : k < n := by omega
      have e1 := h1 (by omega)
      have e2 := h2 (by omega)
      subst e1 e2
      obtain ⟨t, ht⟩ : ∃ t, ts[k]? = some t := ⟨_, List.getElem?_eq_getElem (by omega)⟩
      have c1j : ∀ j, j < 5 → ∀ u, (tokA t)[j]? = some u → wr.cell? ⟨g1, o1 + k * 5 + j, none⟩ = some u := fun j hj u hu => by
        have := l1 (k * 5 + j) u (by rw [flatT_at ts k t ht j hj]; exact hu)
        rw [hwr, Nat.add_assoc]; exact this
      have c2j : ∀ j, j < 5 → ∀ u, (tokA t)[j]? = some u → wr.cell? ⟨g2, o2 + k * 5 + j, none⟩ = some u := fun j hj u hu => by
        have := l2 (k * 5 + j) u (by rw [flatT_at ts k t ht j hj]; exact hu)
        rw [hwr, Nat.add_assoc]; exact this
      have a0 := c1j 0 (by decide) (.int .i64 t.kind) rfl
      have a1 := c1j 1 (by decide) (.string ⟨t.text.toArray⟩) rfl
      have a2 := c1j 2 (by decide) (.int .i64 t.frm) rfl
      have a3 := c1j 3 (by decide) (.int .i64 t.to) rfl
      have a4 := c1j 4 (by decide) (.int .i64 t.n) rfl
      have b0 := c2j 0 (by decide) (.int .i64 t.kind) rfl
      have b1 := c2j 1 (by decide) (.string ⟨t.text.toArray⟩) rfl
      have b2 := c2j 2 (by decide) (.int .i64 t.frm) rfl
      have b3 := c2j 3 (by decide) (.int .i64 t.to) rfl
      have b4 := c2j 4 (by decide) (.int .i64 t.n) rfl
      simp only [Nat.add_zero] at a0 b0
      have HWR : Hid (wr = w.drewN m) := hwr
      generalize (t.kind : Int) = x0 at *
      generalize (⟨t.text.toArray⟩ : ByteArray) = x1 at *
      generalize (t.frm : Int) = x2 at *
      generalize (t.to : Int) = x3 at *
      generalize (t.n : Int) = x4 at *
      clear c1j c2j ht l1 l2 hwr hn
      go_wp2
      go_quiet (fail)
      go_wp2
      go_roundg h
      case measure => omega
      case rel => exact ⟨k + 1, by omega, by go_num, (by rw [HWR.out]; exact ⟨_, World.drewN_drewN _ _ _⟩)⟩
end Go.Proofs.YtcfhngfogclheaaDoor
