/-
  SetRoot and Root on a heap that New made, and SameObj of two things with the same cells; condition of SameObj: the cells of both can be read.
-/
import Derived.Test.YtkjkpkmmojchiaaGreatDoorHeapZb
namespace Go.Proofs.YtkjkpkmmojchiaaGreatDoor
open Go.RowKit

theorem HB.setRoot {w : World} {b : Nat} {lim used : Int} {sv : Value} {rk rn : Int} (h : HB w b lim used sv rk rn) (p q : Int) : HB ((w.setCell ⟨b, 4, none⟩ (.int .i64 p)).setCell ⟨b, 5, none⟩ (.int .i64 q)) b lim used sv p q := by
  unfold HB at h ⊢
  simp [World.setCell, Array.getElem?_modify, h]

theorem Rep.setRoot {w : World} {B b : Nat} {lim used : Int} {sv : Value} {rk rn : Int} {T : List Thing} (h : Rep w B b lim used sv rk rn T) (p q : Int) : Rep ((w.setCell ⟨b, 4, none⟩ (.int .i64 p)).setCell ⟨b, 5, none⟩ (.int .i64 q)) B b lim used sv p q T := by
  have hf : Fr [b] w ((w.setCell ⟨b, 4, none⟩ (.int .i64 p)).setCell ⟨b, 5, none⟩ (.int .i64 q)) := Fr.setCell (Fr.setCell (Fr.refl _ _) (.inl (by simp)) _) (.inl (by simp)) _
  refine ⟨h.hb.setRoot p q, ?_, ?_, h.sep, h.base, h.rows⟩
  · exact own_fr h.row hf (by intro k hk hm; simp at hm; subst hm; exact own_ne h.row h.hb (by decide) hk)
  · intro t ht
    obtain ⟨c, e, h1, h2, _⟩ := (h.th t ht).tb_ne
    exact (h.th t ht).fr hf (by simpa using h.hb.ne_of h1 h2) (by simpa using h.hb.ne_of (h.th t ht).row (by decide))

theorem RRep.setRoot {w : World} {B r : Nat} {lim used : Int} {sv : Value} {rk rn : Int} {U : List RT} (h : RRep w B r lim used sv rk rn U) (p q : Int) : RRep ((w.setCell ⟨r, 3, none⟩ (.int .i64 p)).setCell ⟨r, 4, none⟩ (.int .i64 q)) B r lim used sv p q U := by
  have f : Fr [r] w ((w.setCell ⟨r, 3, none⟩ (.int .i64 p)).setCell ⟨r, 4, none⟩ (.int .i64 q)) := Fr.setCell (Fr.setCell (Fr.refl _ _) (.inl (by simp)) _) (.inl (by simp)) _
  refine ⟨h.hb.setRoot p q, own_fr h.row f ?_, fun v hv => own_fr (h.th v hv) f ?_, h.sep, h.base⟩
  · intro k hk hm
    simp at hm
    subst hm
    exact own_ne h.row h.hb (by decide) hk
  · intro k hk hm
    simp at hm
    subst hm
    exact own_ne (h.th v hv) h.hb (by decide) hk

set_option maxRecDepth 100000 in
set_option maxHeartbeats 400000 in
theorem SetRoot_any {w : World} {B b : Nat} {lim used : Int} {sv : Value} {rk rn : Int} {T : List Thing} (R : Rep w B b lim used sv rk rn T) (p q : Int) :
    Calls Tryz.prog 145 #[.pointer (some ⟨b, 0, none⟩), .agg #[.int .i64 p, .int .i64 q]] w fun e w' => e = .returned (.tuple #[]) ∧ Rep w' B b lim used sv p q T ∧ Fr [b] w w' := by
  have hA : ∀ o, Rep (w.alloc o) B b lim used sv rk rn T := fun o => R.frame (S := []) ((Fr.refl _ _).alloc o) (by simp)
  have c4 := R.hb.c4
  have c5 := R.hb.c5
  have cz := R.hb.fz
  have hlt := R.hb.lt
  go_enter Tryz.func145, Tryz.ntmps145
  go_wp2_with (go_at_call 85; refine (alive_any _ _ (hA _).hb.c0).mono ?_; rintro e w' ⟨rfl, rfl⟩)
  go_end0
  exact ⟨rfl, (R.setRoot p q).frame (S := []) ((Fr.refl _ _).alloc _) (by simp), Fr.alloc (Fr.setCell (Fr.setCell (Fr.refl _ _) (.inl (by simp)) _) (.inl (by simp)) _) _⟩

set_option maxRecDepth 100000 in
set_option maxHeartbeats 400000 in
theorem Root_any {w : World} {b : Nat} {lim used : Int} {sv : Value} {rk rn : Int} (h : HB w b lim used sv rk rn) :
    Calls Tryz.prog 49 #[.pointer (some ⟨b, 0, none⟩)] w fun e w' => e = .returned (.agg #[.int .i64 rk, .int .i64 rn]) ∧ Fr [] w w' := by
  have hA : ∀ o, HB (w.alloc o) b lim used sv rk rn := fun o => h.fr (S := []) ((Fr.refl _ _).alloc o) (by simp)
  have c4 := fun o => (hA o).c4
  have c5 := fun o => (hA o).c5
  have hlt := h.lt
  go_enter Tryz.func49, Tryz.ntmps49
  go_wp2_with (go_at_call 85; refine (alive_any _ _ (hA _).c0).mono ?_; rintro e w' ⟨rfl, rfl⟩)
  refine bodyPost_ret (v := .agg #[.int .i64 rk, .int .i64 rn]) (by simp [results, Tryz.results49, go_sem]) rfl ⟨rfl, ?_⟩
  exact (Fr.refl _ _).alloc _

/-- Each cell of the values at a slice's place. -/
theorem Lies.at {w : World} {a : Option Addr} {xs : List (Int × Int)} (h : Lies w a xs) {j : Nat} {x : Int × Int} (hx : xs[j]? = some x) : ∃ g o, a = some ⟨g, o, none⟩ ∧ w.cell? ⟨g, o + j * 2, none⟩ = some (.int .i64 x.1) ∧ w.cell? ⟨g, o + j * 2 + 1, none⟩ = some (.int .i64 x.2) := by
  have hj : j < xs.length := (List.getElem?_eq_some_iff.1 hx).1
  obtain ⟨⟨g, o, spot⟩, e, hc⟩ := h (by omega)
  have h1 := flat_at xs j x hx
  have e0 := hc _ _ h1.1
  have e1 := hc _ _ h1.2
  have hspot : spot = none := by
    obtain ⟨y, hy⟩ : ∃ y, xs[0]? = some y := ⟨xs[0], List.getElem?_eq_getElem (by omega)⟩
    simpa [Addr.add] using World.cell?_spot (hc 0 _ (flat_at xs 0 y hy).1)
  subst hspot
  refine ⟨g, o, e, ?_, ?_⟩
  · rw [← Go.WideShapes.add_plain]; exact e0
  · rw [Nat.add_assoc, ← Go.WideShapes.add_plain]; exact e1

end Go.Proofs.YtkjkpkmmojchiaaGreatDoor
